/-
  What lmtp.goOnFrom does: the walk.
  What lmtp.Line does: the walk.
  Plain facts that the laws on sessions lean on. No program is named here.
  lmtp.Line's answer, in its parts and in a box.
  A postroom at work: its plain meaning, over what delivering a letter does.
  What book.Fold does with no batches: the walk.
  States of boxes in memory: how they are read, and one that a call has made and may write into. No function of the program is named here.
  What the ledger's settle does, and slices.Clone of states: the walks.
-/
import Derived.Test.YtlfgemnmfhknfaaGreatDoorZQLmAdr8
import Derived.Test.YtlfgemnmfhknfaaGreatDoorZLmPur
import Derived.Test.YtlfgemnmfhknfaaGreatDoorZBoxPur
import Derived.Test.YtlfgemnmfhknfaaGreatDoorRows
import Derived.Test.YtlfgemnmfhknfaaGreatDoorZQPure5
import Derived.OpenShut
import Derived.Below
import Derived.WalkKit
import Derived.Test.YtlfgemnmfhknfaaGreatDoorZQScrMemX7
import Derived.Laws.AppendOwn
import Derived.Test.YtlfgemnmfhknfaaGreatDoorZQTokMark6
import Derived.Test.YtlfgemnmfhknfaaGreatDoorZQTokNum4
import Derived.Deep.RegionHeld3
import Derived.Deep.RegionLaw
import Derived.Deep.DeepCutAuto
import Derived.Lib.SliceRun
namespace Go.Proofs.YtlfgemnmfhknfaaGreatDoor
open Go.RowKit Go.Proofs
theorem j6 {w : World} {B b j : Nat} {v u : Value} {l : List Adr} (h : OwnL w B v l) (hb : b < B) : OwnL (w.setCell ⟨b, j, none⟩ u) B v l := by
  unfold OwnL at *; refine ⟨h.1, ?_⟩
  rcases h.2 with h' | ⟨g, cap, cur, hv, hB, hg, hr⟩
  · exact .inl h'
  · exact .inr ⟨g, cap, cur, hv, hB, (Below.heap_setCell _ _ _ _ (show g ≠ b by omega)).trans hg, hr⟩
theorem jaz {w : World} {B B' : Nat} {v : Value} {l : List Adr} (h : OwnL w B v l) (hb : B' ≤ B) : OwnL w B' v l := by
  unfold OwnL at *; refine ⟨h.1, ?_⟩
  rcases h.2 with h' | ⟨g, cap, cur, hv, hB, hg, hr⟩
  · exact .inl h'
  · exact .inr ⟨g, cap, cur, hv, by omega, hg, hr⟩
def GoP (w : World) (s : Ses) (e : Ending) (w' : World) : Prop := ∃ v, e = .returned (.agg #[.int .i64 s.step, .string (S s.frm.1), .string (S s.frm.2), v, .string (S s.text), .bool s.large, .slice none 0 0]) ∧ OwnL w' w.heap.size v s.to ∧ Below w.heap.size w w'
theorem sev7 {W : World} {p : Nat} {u0 u1 u2 u3 u4 u5 u6 v0 v1 v2 v3 v4 v5 v6 : Value} {t : TypeId} (h : W.heap[p]? = some (.cells #[u0, u1, u2, u3, u4, u5, u6] t)) : (((((((W.setCell ⟨p, 0, none⟩ v0).setCell ⟨p, 1, none⟩ v1).setCell ⟨p, 2, none⟩ v2).setCell ⟨p, 3, none⟩ v3).setCell ⟨p, 4, none⟩ v4).setCell ⟨p, 5, none⟩ v5).setCell ⟨p, 6, none⟩ v6).heap[p]? = some (.cells #[v0, v1, v2, v3, v4, v5, v6] t) := by
  have := j5 (j := 6) (u := v6) (six7 (v0 := v0) (v1 := v1) (v2 := v2) (v3 := v3) (v4 := v4) (v5 := v5) h); simp only [List.setIfInBounds_toArray, List.set_cons_succ, List.set_cons_zero] at this; exact this
set_option maxHeartbeats 2000000 in
set_option maxRecDepth 100000 in
theorem jd6 (Q : Nat → Prop) (s : Ses) (v : Value) (w : World) (ha : AdrsM Q w v s.to) (hn : s.to.length ≤ 1000) :
    Calls Tryz.prog 108 #[sesV s v] w (GoP w s) := by
  obtain ⟨W1, hW1⟩ : ∃ W1, W1 = (w.alloc (.cells #[.int .i64 s.step, .string (S s.frm.1), .string (S s.frm.2), v, .string (S s.text), .bool s.large] 85)).alloc (.cells #[.int .i64 0, .string ⟨#[]⟩, .string ⟨#[]⟩, .slice none 0 0, .string ⟨#[]⟩, .bool false, .slice none 0 0] 185) := ⟨_, rfl⟩; have HWE := hid hW1; have hB1 : Below w.heap.size w W1 := by rw [hW1]; exact ((Below.refl _ _).alloc (Nat.le_refl _) _).alloc (by simp) _
  have HB1 := hid hB1; have hX0 : W1.heap[w.heap.size]? = some (.cells #[.int .i64 s.step, .string (S s.frm.1), .string (S s.frm.2), v, .string (S s.text), .bool s.large] 85) := by rw [hW1]; exact jbn _ (heap_alloc_new w _)
  have hX1 : W1.heap[w.heap.size + 1]? = some (.cells #[.int .i64 0, .string ⟨#[]⟩, .string ⟨#[]⟩, .slice none 0 0, .string ⟨#[]⟩, .bool false, .slice none 0 0] 185) := by rw [hW1]; exact jdf _ (by simp)
  have hz : W1.heap.size = w.heap.size + 2 := by rw [hW1]; simp
  have HZ := hid hz; have HC := hid (jgv Q s.to v W1 (ha.next hB1) hn); have HX0 := hid hX0; have HX1 := hid hX1; obtain ⟨x0, x1, x2, x3, x4, x5⟩ := zL hX0; clear hW1 hX0 hX1 hB1 ha hz; unfold sesV; go_enter Tryz.func108, Tryz.ntmps108; go_upto_region 1 with fail
  rw [← HWE.out]; go_wp2_with fail; refine HC.out.mono ?_; rintro e u ⟨v', rfl, ho, hb⟩; obtain ⟨a', c', rfl⟩ := ho.slice; have hY0 := jS hb HX0.out; have hY1 := jS hb HX1.out; obtain ⟨y0, y1, y2, y3, y4, y5⟩ := zL hY0; have f3 := jcG hY0 3; have hne : w.heap.size + 1 ≠ w.heap.size := by omega
  obtain ⟨U, hU⟩ : ∃ U, U = u.setCell ⟨w.heap.size, 3, none⟩ (.slice a' s.to.length c') := ⟨_, rfl⟩; have HUE := hid hU; have hV0 := j5 (j := 3) (u := (.slice a' s.to.length c')) hY0; have hV1 : (u.setCell ⟨w.heap.size, 3, none⟩ (.slice a' s.to.length c')).heap[w.heap.size + 1]? = _ := (Below.heap_setCell _ _ _ _ hne).trans hY1; simp only [List.setIfInBounds_toArray, List.set_cons_zero, List.set_cons_succ] at hV0; rw [← hU] at hV0 hV1; have HV0 := hid hV0; have HV1 := hid hV1; have HF := hid (show GoP w s (.returned (.agg #[.int .i64 s.step, .string (S s.frm.1), .string (S s.frm.2), (.slice a' s.to.length c'), .string (S s.text), .bool s.large, .slice none 0 0])) (((((((U.setCell ⟨w.heap.size + 1, 0, none⟩ (.int .i64 s.step)).setCell ⟨w.heap.size + 1, 1, none⟩ (.string (S s.frm.1))).setCell ⟨w.heap.size + 1, 2, none⟩ (.string (S s.frm.2))).setCell ⟨w.heap.size + 1, 3, none⟩ (.slice a' s.to.length c')).setCell ⟨w.heap.size + 1, 4, none⟩ (.string (S s.text))).setCell ⟨w.heap.size + 1, 5, none⟩ (.bool s.large)).setCell ⟨w.heap.size + 1, 6, none⟩ (.slice none 0 0)) by
    have hz := HZ.out; have h1 : w.heap.size < W1.heap.size := by omega
    have h2 : w.heap.size + 1 < W1.heap.size := by omega
    have hbU : Below w.heap.size w U := by rw [hU]; exact (HB1.out.trans (hb.mono HB1.out.size)).setCell (p := ⟨w.heap.size, 3, none⟩) (Nat.le_refl _) _
    refine ⟨(.slice a' s.to.length c'), rfl, jaz (j6 (j6 (j6 (j6 (j6 (j6 (j6 (by rw [hU]; exact j6 ho h1) h2) h2) h2) h2) h2) h2) h2) (by omega), ?_⟩; exact (hbU.trans (low7 U _ _ _ _ _ _ (Nat.le_succ _))).setCell (p := ⟨w.heap.size + 1, 6, none⟩) (Nat.le_succ _) _)
  clear hY0 hY1 hV0 hV1 ho hb hU; go_upto_region 2 with fail
  rw [← HUE.out]; clear y0 y1 y2 y3 y4 y5 f3 x0 x1 x2 x3 x4 x5; obtain ⟨p0, p1, p2, p3, p4, p5⟩ := zL HV0.out; obtain ⟨⟨q0, q1, q2, q3, q4, q5, q6⟩, hgz⟩ := zz HV1.out; have g0 := hgz 0; have g1 := hgz 1; have g2 := hgz 2; have g3 := hgz 3; have g4 := hgz 4; have g5 := hgz 5; have g6 := hgz 6; have hR := sev7 (v0 := .int .i64 s.step) (v1 := .string (S s.frm.1)) (v2 := .string (S s.frm.2)) (v3 := (.slice a' s.to.length c')) (v4 := .string (S s.text)) (v5 := .bool s.large) (v6 := .slice none 0 0) HV1.out; have HR := hid hR; clear hR hgz; go_wp2; obtain ⟨⟨r0, r1, r2, r3, r4, r5, r6⟩, _⟩ := zz HR.out; clear p0 p1 p2 p3 p4 p5 q0 q1 q2 q3 q4 q5 q6 g0 g1 g2 g3 g4 g5 g6; refine bodyPost_ret (v := .agg #[.int .i64 s.step, .string (S s.frm.1), .string (S s.frm.2), (.slice a' s.to.length c'), .string (S s.text), .bool s.large, .slice none 0 0]) (by simp [results, Tryz.results108, go_sem, *]) rfl ?_; exact HF.out
end Go.Proofs.YtlfgemnmfhknfaaGreatDoor
namespace Go.Proofs.YtlfgemnmfhknfaaGreatDoor
open Go.RowKit Go.Proofs
def LnP (w : World) (s : Ses) (known : List (List UInt8)) (line : List UInt8) (e : Ending) (w' : World) : Prop :=
  (mayS s = true → ∃ v lv, e = .returned (.tuple #[sesV (qs s known line).1 v, .int .i64 (qs s known line).2.1, lv, .int .i64 0]) ∧ OwnL w' w.heap.size v (qs s known line).1.to ∧ LOwnT w' w.heap.size lv (qs s known line).2.2) ∧
  (mayS s = false → e = .returned (.tuple #[sesV (atS 0) (.slice none 0 0), .int .i64 0, .slice none 0 0, .int .i64 11])) ∧ Below w.heap.size w w'
theorem jbJ {w : World} {B B' : Nat} {v : Value} {l : List Ltr} (h : LOwnT w B v l) (hb : B' ≤ B) : LOwnT w B' v l := by
  unfold LOwnT at *; refine ⟨h.1, ?_⟩
  rcases h.2 with h' | ⟨g, cap, cur, hv, hB, hg, hr⟩
  · exact .inl h'
  · exact .inr ⟨g, cap, cur, hv, by omega, hg, hr⟩
theorem zw {w : World} {B b j : Nat} {v u : Value} {l : List Ltr} (h : LOwnT w B v l) (hb : b < B) : LOwnT (w.setCell ⟨b, j, none⟩ u) B v l := by
  unfold LOwnT at *; refine ⟨h.1, ?_⟩
  rcases h.2 with h' | ⟨g, cap, cur, hv, hB, hg, hr⟩
  · exact .inl h'
  · exact .inr ⟨g, cap, cur, hv, hB, (Below.heap_setCell _ _ _ _ (show g ≠ b by omega)).trans hg, hr⟩
theorem jc4 {W : World} {p : Nat} {u0 u1 u2 u3 u4 u5 v0 v1 v2 v3 v4 v5 : Value} {t : TypeId} (h : W.heap[p]? = some (.cells #[u0, u1, u2, u3, u4, u5] t)) : ((((((W.setCell ⟨p, 0, none⟩ v0).setCell ⟨p, 1, none⟩ v1).setCell ⟨p, 2, none⟩ v2).setCell ⟨p, 3, none⟩ v3).setCell ⟨p, 4, none⟩ v4).setCell ⟨p, 5, none⟩ v5).heap[p]? = some (.cells #[v0, v1, v2, v3, v4, v5] t) := by
  have := j5 (j := 5) (u := v5) (j5 (j := 4) (u := v4) (j5 (j := 3) (u := v3) (j5 (j := 2) (u := v2) (j5 (j := 1) (u := v1) (j5 (j := 0) (u := v0) h))))); simp only [List.setIfInBounds_toArray, List.set_cons_succ, List.set_cons_zero] at this; exact this
theorem je8 {w : World} {b : Nat} {cs : Array Value} {t : TypeId} (h : w.heap[b]? = some (.cells cs t)) : w.frozen? ⟨b, 0, none⟩ = false ∧ w.frozen? ⟨b, 1, none⟩ = false ∧ w.frozen? ⟨b, 2, none⟩ = false ∧ w.frozen? ⟨b, 3, none⟩ = false ∧ w.frozen? ⟨b, 4, none⟩ = false ∧ w.frozen? ⟨b, 5, none⟩ = false := by
  simp [World.frozen?, h]
def outW (w : World) (p : Nat) (s : Ses) (v : Value) : World := (((((w.setCell ⟨p, 0, none⟩ (.int .i64 s.step)).setCell ⟨p, 1, none⟩ (.string (S s.frm.1))).setCell ⟨p, 2, none⟩ (.string (S s.frm.2))).setCell ⟨p, 3, none⟩ v).setCell ⟨p, 4, none⟩ (.string (S s.text))).setCell ⟨p, 5, none⟩ (.bool s.large)
theorem jjM {w : World} {B : Nat} {v : Value} {l : List Adr} (h : OwnL w B v l) : OwnL w.drew B v l := h
theorem jia {w : World} {B : Nat} {v : Value} {l : List Ltr} (h : LOwnT w B v l) : LOwnT w.drew B v l := h
theorem jhA {w : World} {b : Nat} {x : Option Obj} (h : w.heap[b]? = x) : w.drew.heap[b]? = x := h
theorem jk0 {w w5 : World} {s r : Ses} {known : List (List UInt8)} {line : List UInt8} {c : Int} {v lv : Value} {B H : Nat} {ls : List Ltr} (hm : mayS s = true) (hl : qs s known line = (r, c, ls)) (ho : OwnL w5 B v r.to) (ht : LOwnT w5 H lv ls) (hB : w.heap.size + 2 ≤ B) (hH : w.heap.size + 2 ≤ H) (hb : Below w.heap.size w w5) :
    LnP w s known line (.returned (.tuple #[sesV r v, .int .i64 c, lv, .int .i64 0])) (outW w5 (w.heap.size + 1) r v).drew := by
  refine ⟨fun _ => ?_, (fun h => by rw [hm] at h; cases h), ?_⟩
  · rw [hl]; have h1 : w.heap.size + 1 < B := by omega
    have h2 : w.heap.size + 1 < H := by omega
    exact ⟨v, lv, rfl, jjM (jaz (j6 (j6 (j6 (j6 (j6 (j6 ho h1) h1) h1) h1) h1) h1) (by omega)), jia (jbJ (zw (zw (zw (zw (zw (zw ht h2) h2) h2) h2) h2) h2) (by omega))⟩
  · exact (hb.trans (low7 w5 _ _ _ _ _ _ (Nat.le_succ _))).drew
set_option maxHeartbeats 4000000 in
set_option maxRecDepth 100000 in
theorem jkj (Q : Nat → Prop) (s : Ses) (v kv : Value) (known : List (List UInt8)) (line : List UInt8) (w : World) (hf : Fit s) (hv : jan v) (ha : AdrsM Q w v s.to) (hk : TxtsM Q w kv known) (hl : line.length ≤ 140737488355328) :
    Calls Tryz.prog 76 #[sesV s v, kv, .string (S line)] w (LnP w s known line) := by
  obtain ⟨av, cv, rfl⟩ : ∃ a c, v = .slice a s.to.length c := by obtain ⟨a, c, h, _⟩ := ha; exact ⟨a, c, h⟩
  obtain ⟨ak, ck, rfl⟩ : ∃ a c, kv = .slice a known.length c := by obtain ⟨a, c, h, _⟩ := hk; exact ⟨a, c, h⟩
  obtain ⟨W1, hW1⟩ : ∃ W1, W1 = (w.alloc (.cells #[.int .i64 s.step, .string (S s.frm.1), .string (S s.frm.2), .slice av s.to.length cv, .string (S s.text), .bool s.large] 85)).alloc (.cells #[.int .i64 0, .string ⟨#[]⟩, .string ⟨#[]⟩, .slice none 0 0, .string ⟨#[]⟩, .bool false] 85) := ⟨_, rfl⟩; have HWE := hid hW1; have hB1 : Below w.heap.size w W1 := by rw [hW1]; exact ((Below.refl _ _).alloc (Nat.le_refl _) _).alloc (by simp) _
  have HB1 := hid hB1; have hX0 : W1.heap[w.heap.size]? = some (.cells #[.int .i64 s.step, .string (S s.frm.1), .string (S s.frm.2), .slice av s.to.length cv, .string (S s.text), .bool s.large] 85) := by rw [hW1]; exact jbn _ (heap_alloc_new w _)
  have hX1 : W1.heap[w.heap.size + 1]? = some (.cells #[.int .i64 0, .string ⟨#[]⟩, .string ⟨#[]⟩, .slice none 0 0, .string ⟨#[]⟩, .bool false] 85) := by rw [hW1]; exact jdf _ (by simp)
  have HZ := hid (show W1.heap.size = w.heap.size + 2 by rw [hW1]; simp); have HX0 := hid hX0; have HX1 := hid hX1; have HA := hid (ha.next hB1); have HK := hid (show TxtsM (· < W1.heap.size) W1 (.slice ak known.length ck) known from by
    obtain ⟨a, c, h1, h2, h3⟩ := hk; refine ⟨a, c, h1, h2, fun i x hx => ?_⟩; obtain ⟨b, o, cs, e1, e2, _, e4, e5, e6⟩ := h3 i x hx; exact ⟨b, o, cs, e1, Nat.lt_of_lt_of_le e2 hB1.size, Nat.lt_of_lt_of_le e2 hB1.size, e4, fun j u hj => (hB1.cell (p := ⟨b, o + i * 1 + j, none⟩) e2).trans (e5 j u hj), e6⟩)
  have HCK := hid (jfi Q s (.slice av s.to.length cv) W1 hf hv HA.out); have HFT := hid hf.txt; obtain ⟨x0, x1, x2, x3, x4, x5⟩ := zL hX0; obtain ⟨m, hm⟩ : ∃ m, m = mayS s := ⟨_, rfl⟩; rw [← hm] at HCK; have HM := hid hm; clear hW1 hX0 hX1 hB1 ha hk hf hv hm; unfold sesV at HCK ⊢; cases m with
  | false =>
    go_enter Tryz.func76, Tryz.ntmps76; go_upto_region 1 with fail
    rw [← HWE.out]; go_wp2_with fail; refine HCK.out.mono ?_; rintro e w2 ⟨rfl, hb2⟩; have hY1 := jS hb2 HX1.out; obtain ⟨y0, y1, y2, y3, y4, y5⟩ := zL hY1; obtain ⟨f0, f1, f2, f3, f4, f5⟩ := je8 hY1; have hR := jc4 (v0 := .int .i64 0) (v1 := .string ⟨#[]⟩) (v2 := .string ⟨#[]⟩) (v3 := .slice none 0 0) (v4 := .string ⟨#[]⟩) (v5 := .bool false) hY1; have HR := hid hR; have HE := hid (show LnP w s known line (.returned (.tuple #[.agg #[.int .i64 0, .string ⟨#[]⟩, .string ⟨#[]⟩, .slice none 0 0, .string ⟨#[]⟩, .bool false], .int .i64 0, .slice none 0 0, .int .i64 11])) (outW w2 (w.heap.size + 1) (atS 0) (.slice none 0 0)) from
      ⟨(fun h => by rw [← HM.out] at h; cases h), (fun _ => rfl), (HB1.out.trans (hb2.mono HB1.out.size)).trans (low7 w2 _ _ _ _ _ _ (Nat.le_succ _))⟩)
    clear hb2 hY1 hR x0 x1 x2 x3 x4 x5; simp only [Bool.false_eq_true, if_false]; go_wp2; obtain ⟨r0, r1, r2, r3, r4, r5⟩ := zL HR.out; clear y0 y1 y2 y3 y4 y5 f0 f1 f2 f3 f4 f5; refine bodyPost_ret (v := .tuple #[.agg #[.int .i64 0, .string ⟨#[]⟩, .string ⟨#[]⟩, .slice none 0 0, .string ⟨#[]⟩, .bool false], .int .i64 0, .slice none 0 0, .int .i64 11]) (by simp [results, Tryz.results76, go_sem, *]) rfl ?_; exact HE.out
  | true =>
    have h5 : s.to.length ≤ 5 := by
      have h := (zC.1 HM.out.symm).2.2.2.1; unfold zT at h; split at h
      · have : s.to = [] := by simpa using h
        rw [this]; simp
      · simp only [Bool.and_eq_true, decide_eq_true_eq] at h; exact h.1.2
    have HT2 := hid (show s.text.length ≤ 2000 by
      have h := (zC.1 HM.out.symm).2.2.2.2; unfold jac at h; split at h
      · simpa using h
      · simp only [Bool.and_eq_true] at h; have : s.text = [] := by simpa using h.1
        rw [this]; simp)
    go_enter Tryz.func76, Tryz.ntmps76; go_upto_region 1 with fail
    rw [← HWE.out]; go_wp2_with fail; refine HCK.out.mono ?_; rintro e w2 ⟨rfl, hb2⟩; have hY0 := jS hb2 HX0.out; have HY1 := hid (jS hb2 HX1.out); obtain ⟨y0, y1, y2, y3, y4, y5⟩ := zL hY0; have HGO := hid (jd6 Q s (.slice av s.to.length cv) w2 (HA.out.next hb2) (by omega)); unfold sesV at HGO; have HB2 := hid hb2; clear hb2 hY0 x0 x1 x2 x3 x4 x5; simp only [if_true]; go_wp2_with fail; refine HGO.out.mono ?_; rintro e w3 ⟨v', rfl, ho3, hb3⟩; obtain ⟨a', c', rfl⟩ := ho3.slice; obtain ⟨b, hb⟩ : ∃ b, b = w3.heap.size := ⟨_, rfl⟩; obtain ⟨W4, hW4⟩ : ∃ W4, W4 = w3.alloc (.cells #[.int .i64 s.step, .string (S s.frm.1), .string (S s.frm.2), .slice a' s.to.length c', .string (S s.text), .bool s.large, .slice none 0 0] 185) := ⟨_, rfl⟩; have HWE4 := hid hW4; have hB4 : Below w3.heap.size w3 W4 := by rw [hW4]; exact (Below.refl _ _).alloc (Nat.le_refl _) _
    have hS4 : SB W4 b s (.slice a' s.to.length c') (.slice none 0 0) := by rw [hW4, hb]; exact heap_alloc_new w3 _
    have HB23 := hid (hb3.trans (hB4.mono hb3.size)); have HB14 := hid (show Below W1.heap.size W1 W4 from HB2.out.trans (HB23.out.mono HB2.out.size)); have HS4 := hid hS4; have HO4 := hid (jQ ho3 hB4); have HSW := hid (show SesW W4 b w2.heap.size s (.slice none 0 0) from ⟨_, hS4, jQ ho3 hB4⟩); have HN1 := hid (show W1.heap.size ≤ b by rw [hb]; exact Nat.le_trans HB2.out.size hb3.size); have HN2 := hid (show W1.heap.size ≤ w2.heap.size from HB2.out.size); have HBE := hid hb; have HLN := hid (show w2.heap.size ≤ W4.heap.size from HB23.out.size); clear hW4 hB4 hS4 ho3 hb3 hb y0 y1 y2 y3 y4 y5; obtain ⟨⟨z0, z1, z2, z3, z4, z5, z6⟩, _⟩ := zz HS4.out; have hcase : s.step = 5 ∨ s.step = 4 ∨ (¬ s.step = 5 ∧ ¬ s.step = 4) := by omega
    go_upto_region 5 with fail
    rw [← HWE4.out, ← HBE.out]
    rcases hcase with h | h | h
    case' inl =>
      have HL := hid (show qs s known line = (s, 0, []) by unfold qs; rw [if_pos h]); have e5 : (s.step == 5) = true := by simp [h]
      obtain ⟨w5, hw5⟩ : ∃ w5, w5 = W4 := ⟨_, rfl⟩; obtain ⟨r, hr⟩ : ∃ r, r = s := ⟨_, rfl⟩; obtain ⟨c, hc⟩ : ∃ c : Int, c = 0 := ⟨_, rfl⟩; obtain ⟨lv, hlv⟩ : ∃ lv, lv = Value.slice none 0 0 := ⟨_, rfl⟩; obtain ⟨ls, hls⟩ : ∃ ls, ls = ([] : List Ltr) := ⟨_, rfl⟩; have HT5 := hid (show LOwnT w5 W4.heap.size lv ls by rw [hlv, hls]; exact LOwnT.nil _ _); have HSW5 := hid (show SesW w5 b w2.heap.size r lv by rw [hw5, hr, hlv]; exact HSW.out); have HB5 := hid (show Below W1.heap.size W1 w5 by rw [hw5]; exact HB14.out); have HL5 := hid (show qs s known line = (r, c, ls) by rw [HL.out, hr, hc, hls]); have HCC := hid hc; have HCW := hid hw5; clear hw5 hr hc hlv hls; go_upto_region 10 with fail
      rw [← HCW.out]
    case' inr.inl =>
      have HL := hid (show qs s known line = ((jak s line).1, 0, (jak s line).2) by unfold qs; rw [if_neg (by omega), if_pos h]); have e5 : (s.step == 5) = false := by simp [h]
      have e4 : (s.step == 4) = true := by simp [h]
      have HX := hid (jhD W1.heap.size b w2.heap.size line s W4 HSW.out HN1.out (by omega) hl HT2.out); clear h; go_wp2_with fail; refine HX.out.mono ?_; rintro e w5 ⟨rfl, lv, hw5, ht5, hb5⟩; obtain ⟨r, hr⟩ : ∃ r, r = (jak s line).1 := ⟨_, rfl⟩; obtain ⟨c, hc⟩ : ∃ c : Int, c = 0 := ⟨_, rfl⟩; obtain ⟨ls, hls⟩ : ∃ ls, ls = (jak s line).2 := ⟨_, rfl⟩; rw [← hr] at hw5; rw [← hls] at ht5; have HT5 := hid ht5; have HSW5 := hid hw5; have HB5 := hid (show Below W1.heap.size W1 w5 from HB14.out.trans hb5); have HL5 := hid (show qs s known line = (r, c, ls) by rw [HL.out, hr, hc, hls]); have HCC := hid hc; clear hw5 ht5 hb5 hr hc hls; go_upto_region 10 with fail
    case' inr.inr =>
      have HL := hid (show qs s known line = ((cmdM s known line).1, (cmdM s known line).2, []) by unfold qs; rw [if_neg h.1, if_neg h.2]); have e5 : (s.step == 5) = false := by simp [h.1]
      have e4 : (s.step == 4) = false := by simp [h.2]
      have HX := hid (jjX W1.heap.size b w2.heap.size line known (.slice ak known.length ck) s (.slice none 0 0) W4 HSW.out HN1.out HN2.out hl (HK.out.nextB HB14.out) (by omega) HLN.out); clear h; go_wp2_with fail; refine HX.out.mono ?_; rintro e w5 ⟨rfl, hw5, hb5⟩; obtain ⟨lv, hlv⟩ : ∃ lv, lv = Value.slice none 0 0 := ⟨_, rfl⟩; obtain ⟨r, hr⟩ : ∃ r, r = (cmdM s known line).1 := ⟨_, rfl⟩; obtain ⟨c, hc⟩ : ∃ c : Int, c = (cmdM s known line).2 := ⟨_, rfl⟩; obtain ⟨ls, hls⟩ : ∃ ls, ls = ([] : List Ltr) := ⟨_, rfl⟩; rw [← hr, ← hlv] at hw5; have HT5 := hid (show LOwnT w5 W4.heap.size lv ls by rw [hlv, hls]; exact LOwnT.nil _ _); have HSW5 := hid hw5; have HB5 := hid (show Below W1.heap.size W1 w5 from HB14.out.trans hb5); have HL5 := hid (show qs s known line = (r, c, ls) by rw [HL.out, hr, hc, hls]); have HCC := hid hc; clear hw5 hb5 hr hc hls hlv; go_upto_region 10 with fail
    all_goals
      clear z0 z1 z2 z3 z4 z5 z6; obtain ⟨v5, hs5, ho5⟩ := HSW5.out; obtain ⟨a5, c5, rfl⟩ := ho5.slice; obtain ⟨⟨z0, z1, z2, z3, z4, z5, z6⟩, _⟩ := zz hs5; have hz := HZ.out; have hne1 : b ≠ w.heap.size + 1 := by have := HN1.out; omega
      have hne2 : w.heap.size + 1 ≠ b := fun e => hne1 e.symm
      have hY5 : w5.heap[w.heap.size + 1]? = _ := jl2 HB5.out HX1.out (by omega); obtain ⟨y0, y1, y2, y3, y4, y5⟩ := zL hY5; obtain ⟨f0, f1, f2, f3, f4, f5⟩ := je8 hY5; have HR := hid (jc4 (W := w5) (v0 := .int .i64 r.step) (v1 := .string (S r.frm.1)) (v2 := .string (S r.frm.2)) (v3 := .slice a5 r.to.length c5) (v4 := .string (S r.text)) (v5 := .bool r.large) hY5); have HE := hid (jk0 (w5 := w5) HM.out.symm HL5.out ho5 HT5.out (by have := HN2.out; omega) (by have := HB14.out.size; omega) (HB1.out.trans (HB5.out.mono HB1.out.size))); unfold sesV outW at HE; clear hs5 ho5 hz hY5
      go_region_held3 (fun w' => w'.cell? ⟨b, 0, none⟩ = some (.int .i64 r.step) ∧ w'.cell? ⟨b, 1, none⟩ = some (.string (S r.frm.1)) ∧ w'.cell? ⟨b, 2, none⟩ = some (.string (S r.frm.2)) ∧ w'.cell? ⟨b, 3, none⟩ = some (.slice a5 r.to.length c5) ∧ w'.cell? ⟨b, 4, none⟩ = some (.string (S r.text)) ∧ w'.cell? ⟨b, 5, none⟩ = some (.bool r.large) ∧ w'.cell? ⟨b, 6, none⟩ = some lv) (go_keep) (fail)
      all_goals
        go_wp2; obtain ⟨r0, r1, r2, r3, r4, r5⟩ := zL (jhA HR.out); clear y0 y1 y2 y3 y4 y5 f0 f1 f2 f3 f4 f5 z0 z1 z2 z3 z4 z5 z6; have hcc := HCC.out; refine bodyPost_ret (v := .tuple #[.agg #[.int .i64 r.step, .string (S r.frm.1), .string (S r.frm.2), .slice a5 r.to.length c5, .string (S r.text), .bool r.large], .int .i64 c, lv, .int .i64 0]) (by simp [results, Tryz.results76, go_sem, *]) rfl ?_; exact HE.out
end Go.Proofs.YtlfgemnmfhknfaaGreatDoor
namespace Go.Proofs.YtlfgemnmfhknfaaGreatDoor
open Go.RowKit
theorem lawful.ok {a : Adr} (h : lawful a) : qr a = true := by unfold qr; rw [h.check]; rfl
end Go.Proofs.YtlfgemnmfhknfaaGreatDoor
namespace Go.Proofs.YtlfgemnmfhknfaaGreatDoor
open Go.RowKit Go.Proofs
theorem jli {s : Ses} (h : mayS s = true) : Fit s := by
  obtain ⟨p0, p5, ps, pg, pt⟩ := zC.1 h; have hf : s.frm.1.length ≤ 100 ∧ s.frm.2.length ≤ 100 := by
    unfold zj at ps; split at ps
    · simp only [Bool.and_eq_true, List.isEmpty_iff] at ps; rw [ps.1, ps.2]; simp
    · have := jd1 ps; omega
  have ht : s.text.length ≤ 2000 := by
    unfold jac at pt; split at pt
    · simpa using pt
    · simp only [Bool.and_eq_true, List.isEmpty_iff] at pt; rw [pt.1]; simp
  have hg : ∀ x ∈ s.to, x.1.length + 1 + x.2.length ≤ 100 := by
    unfold zT at pg; split at pg
    · simp only [List.isEmpty_iff] at pg; rw [pg]; simp
    · simp only [Bool.and_eq_true] at pg; exact fun x hx => jd1 (jdF pg.2 hx)
  exact ⟨by omega, by omega, by omega, by omega, by omega, fun x hx => by have := hg x hx; omega⟩
theorem jl0 {s : Ses} (h : mayS s = true) : s.to.length ≤ 5 := by
  have h := (zC.1 h).2.2.2.1; unfold zT at h; split at h
  · have : s.to = [] := by simpa using h
    rw [this]; simp
  · simp only [Bool.and_eq_true, decide_eq_true_eq] at h; exact h.1.2
def LnG (W u : World) (r : Ses) (c : Int) (ls : List Ltr) (e : Ending) (w' : World) : Prop := ∃ a k al cl, e = .returned (.tuple #[.agg #[.int .i64 r.step, .string (S r.frm.1), .string (S r.frm.2), .slice a r.to.length k, .string (S r.text), .bool r.large], .int .i64 c, .slice al ls.length cl, .int .i64 0]) ∧ OwnL w' u.heap.size (.slice a r.to.length k) r.to ∧ LOwnT w' u.heap.size (.slice al ls.length cl) ls ∧ Below u.heap.size u w' ∧ Below W.heap.size W w' ∧ W.heap.size ≤ u.heap.size
theorem jlL {W u : World} {s r : Ses} {c : Int} {ls : List Ltr} {known : List (List UInt8)} {line : List UInt8} {a : Option Addr} {k : Nat} {kv : Value} (hm : mayS s = true) (hl : qs s known line = (r, c, ls)) (ha : AdrsM anyB u (.slice a s.to.length k) s.to) (hr : jan (.slice a s.to.length k)) (hk : TxtsM anyB u kv known) (hn : line.length ≤ 140737488355328) (hu : Below W.heap.size W u) :
    Calls Tryz.prog 76 #[.agg #[.int .i64 s.step, .string (S s.frm.1), .string (S s.frm.2), .slice a s.to.length k, .string (S s.text), .bool s.large], kv, .string (S line)] u (LnG W u r c ls) := by
  refine (jkj anyB s (.slice a s.to.length k) kv known line u (jli hm) hr ha hk hn).mono ?_; rintro e w' ⟨h1, _, h3⟩; obtain ⟨v, lv, he, ho, ht⟩ := h1 hm; rw [hl] at he ho ht; simp only at he ho ht; obtain ⟨a', k', rfl⟩ := ho.slice; obtain ⟨al, cl, rfl⟩ := ht.slice; exact ⟨a', k', al, cl, he, ho, ht, h3, hu.trans (h3.mono hu.size), hu.size⟩
def SesB (w : World) (b B : Nat) (s : Ses) : Prop := ∃ a k, w.heap[b]? = some (.cells #[.int .i64 s.step, .string (S s.frm.1), .string (S s.frm.2), .slice a s.to.length k, .string (S s.text), .bool s.large] 85) ∧ OwnL w B (.slice a s.to.length k) s.to
theorem jhZ {w : World} {B : Nat} {v : Value} {l : List Adr} (h : OwnL w B v l) : jan v := by
  intro a n c hv
  rcases h.2 with ⟨h1, h2⟩ | ⟨g, cap, cur, h1, hb, hg, h2, h3, h4, h5⟩
  · rw [h1] at hv; cases hv; exact Nat.le_refl _
  · rw [h1] at hv; cases hv; omega
theorem SesB.next {w w' : World} {b B : Nat} {s : Ses} (h : SesB w b B s) (hb : Below w.heap.size w w') : SesB w' b B s := by
  obtain ⟨a, k, h1, h2⟩ := h; exact ⟨a, k, jS hb h1, jQ h2 hb⟩
theorem SesB.from {w : World} {b B B' : Nat} {s : Ses} (h : SesB w b B s) (hb : B' ≤ B) : SesB w b B' s := by
  obtain ⟨a, k, h1, h2⟩ := h; exact ⟨a, k, h1, jaz h2 hb⟩
def LnB (W : World) (r : Ses) (c : Int) (ls : List Ltr) (vp vc vl ve : Value) (wx : World) : Prop := ∃ P al cl, vp = .pointer (some ⟨P, 0, none⟩) ∧ vc = .int .i64 c ∧ vl = .slice al ls.length cl ∧ ve = .int .i64 0 ∧ W.heap.size ≤ P ∧ SesB wx P W.heap.size r ∧ LOwnT wx W.heap.size (.slice al ls.length cl) ls ∧ Below W.heap.size W wx
theorem LnB.new {W u w' : World} {r : Ses} {c : Int} {ls : List Ltr} {a al : Option Addr} {k cl : Nat} (h1 : OwnL w' u.heap.size (.slice a r.to.length k) r.to) (h2 : LOwnT w' u.heap.size (.slice al ls.length cl) ls) (h4 : Below W.heap.size W w') (h5 : W.heap.size ≤ u.heap.size) :
    LnB W r c ls (.pointer (some ⟨w'.heap.size, 0, none⟩)) (.int .i64 c) (.slice al ls.length cl) (.int .i64 0) (w'.alloc (.cells #[.int .i64 r.step, .string (S r.frm.1), .string (S r.frm.2), .slice a r.to.length k, .string (S r.text), .bool r.large] 85)) := by
  have hn : Below w'.heap.size w' (w'.alloc (.cells #[.int .i64 r.step, .string (S r.frm.1), .string (S r.frm.2), .slice a r.to.length k, .string (S r.text), .bool r.large] 85)) := (Below.refl _ _).alloc (Nat.le_refl _) _; exact ⟨_, al, cl, rfl, rfl, rfl, rfl, h4.size, ⟨a, k, heap_alloc_new _ _, jQ (jaz h1 h5) hn⟩, jes (jbJ h2 h5) hn, h4.alloc h4.size _⟩
theorem LnB.old {W u w' : World} {r : Ses} {c : Int} {ls : List Ltr} {a al : Option Addr} {k cl P : Nat} {v0 v1 v2 v3 v4 v5 : Value} (h1 : OwnL w' u.heap.size (.slice a r.to.length k) r.to) (h2 : LOwnT w' u.heap.size (.slice al ls.length cl) ls) (h4 : Below W.heap.size W w') (h5 : W.heap.size ≤ u.heap.size) (hP : W.heap.size ≤ P) (hl : P < u.heap.size) (hk : w'.heap[P]? = some (.cells #[v0, v1, v2, v3, v4, v5] 85)) :
    LnB W r c ls (.pointer (some ⟨P, 0, none⟩)) (.int .i64 c) (.slice al ls.length cl) (.int .i64 0) ((((((w'.setCell ⟨P, 0, none⟩ (.int .i64 r.step)).setCell ⟨P, 1, none⟩ (.string (S r.frm.1))).setCell ⟨P, 2, none⟩ (.string (S r.frm.2))).setCell ⟨P, 3, none⟩ (.slice a r.to.length k)).setCell ⟨P, 4, none⟩ (.string (S r.text))).setCell ⟨P, 5, none⟩ (.bool r.large)) := by
  exact ⟨_, al, cl, rfl, rfl, rfl, rfl, hP, ⟨a, k, jc4 hk, jaz (j6 (j6 (j6 (j6 (j6 (j6 h1 hl) hl) hl) hl) hl) hl) h5⟩, jbJ (zw (zw (zw (zw (zw (zw h2 hl) hl) hl) hl) hl) hl) h5, h4.trans (low7 w' _ _ _ _ _ _ hP)⟩
theorem jlU {w : World} (o : Obj) : (w.alloc o).heap[w.heap.size]? = some o := heap_alloc_new w o
end Go.Proofs.YtlfgemnmfhknfaaGreatDoor
namespace Go.Proofs.YtlfgemnmfhknfaaGreatDoor
open Go.RowKit
structure Con where
  ses : Ses
  held : List UInt8
  due : List Int
  told : List Int
structure Rom where
  up : Bool
  tape : List UInt8
  tsyn : Int
  syn : Int
  waits : Int
  safe : List Stt
  states : List Stt
  c0 : Con
  c1 : Con
  c2 : Con
  orders : List (List Int)
  due : List Int
def Rom.con (R : Rom) : Nat → Con
  | 0 => R.c0
  | 1 => R.c1
  | _ => R.c2
def Rom.put (R : Rom) (i : Nat) (c : Con) : Rom :=
  match i with
  | 0 => { R with c0 := c }
  | 1 => { R with c1 := c }
  | _ => { R with c2 := c }
def jaB (c : Con) (k : Int) : Con := ⟨atS k, [], [], c.told⟩
def jd3 (c : Con) (l : List Int) : Con := ⟨c.ses, c.held, c.due, c.told ++ l⟩
def sesC (c : Con) (s : Ses) : Con := ⟨s, c.held, c.due, c.told⟩
def jdK (c : Con) (h : List UInt8) : Con := ⟨c.ses, h, c.due, c.told⟩
def dueC (c : Con) (l : List Int) : Con := ⟨c.ses, c.held, l, c.told⟩
def qB (c : Con) (l : List Int) (wait : Bool) : Con := if wait = true then dueC c l else jd3 c l
def jb9 (c : Con) (d : List UInt8) : Con := if c.ses.step = 5 then ⟨atS 0, d, [], c.told⟩ else jdK c (c.held ++ d)
section
variable (D : Rom → Ltr → Rom × Int × Bool) (K : List (List UInt8))
def takeR (R : Rom) (lg : Bool) : List Ltr → Rom × List Int × Bool
  | [] => (R, [], false)
  | x :: t =>
    let d := if lg = true then (R, (552 : Int), false) else D R x
    let r := takeR d.1 lg t
    (r.1, d.2.1 :: r.2.1, d.2.2 || r.2.2)
def jj0 (c : Con) (k : Int) : Con := if k = 0 then c else jd3 c [k]
def jfl (c : Con) (k : Int) : Con := if k = 5 then jaB c 5 else c
def endC (c : Con) : Con := if 3000 < c.held.length then jaB c 5 else c
def runW (rd : Rom → List UInt8 → List UInt8 → Rom) (i : Nat) : Nat → Rom → Rom
  | 0, R => R.put i (endC (R.con i))
  | n + 1, R =>
    if (R.con i).due.isEmpty && (Lib.cut (R.con i).held [13, 10]).2.2 then runW rd i n (rd R (Lib.cut (R.con i).held [13, 10]).1 (Lib.cut (R.con i).held [13, 10]).2.1)
    else R.put i (endC (R.con i))
end
end Go.Proofs.YtlfgemnmfhknfaaGreatDoor
namespace Go.Proofs.YtlfgemnmfhknfaaGreatDoor
open Go.RowKit Go.Proofs
def FnP (w : World) (e : Ending) (w' : World) : Prop := ∃ b, e = .returned (.tuple #[.agg #[.slice (some ⟨b, 0, none⟩) 1 1, .slice none 0 0], .int .i64 0]) ∧ w'.heap[b]? = some (.cells #[.string ⟨#[73, 78, 66, 79, 88]⟩, .int .i64 1, .slice none 0 0] 73) ∧ w.heap.size ≤ b ∧ Below w.heap.size w w'
set_option maxHeartbeats 1000000 in
set_option maxRecDepth 100000 in
theorem jlm (u : Nat) (hu : u < 3) (w : World) : Calls Tryz.prog 23 #[.int .i64 u] w fun e w' => e = .returned (.bool true) ∧ w' = w := by
  have h0 : (0 : Int) ≤ (u : Int) := by omega
  have h1 : (u : Int) < 3 := by omega
  have h2 : (u : Int) ≤ 2 := by omega
  go_enter Tryz.func23, Tryz.ntmps23; go_wp2; go_ret; exact ⟨rfl, rfl⟩
set_option maxHeartbeats 1000000 in
set_option maxRecDepth 100000 in
theorem jfr (u : Nat) (hu : u < 3) (w : World) : Calls Tryz.prog 15 #[.slice none 0 0, .int .i64 u] w (FnP w) := by
  have HU := hid (fun v => jlm u hu v); go_enter Tryz.func15, Tryz.ntmps15; go_wp2
  go_loopw [16] (fun i wr => i = .int .i64 0 ∧ wr = w.alloc (.cells #[.slice none 0 0, .slice none 0 0] 55)) (fun _ _ => 0)
  case atStart => exact ⟨rfl, rfl⟩
  case round =>
    obtain ⟨rfl, rfl⟩ := hrel; go_wp2_with fail; refine (HU.out _).mono ?_; rintro e v ⟨rfl, hv⟩; have hv' := hv.symm; subst hv'; clear hv; go_wp2
    go_loopw [36] (fun i wr => i = .int .i64 0 ∧ wr = ((w.alloc (.cells #[.slice none 0 0, .slice none 0 0] 55)).alloc (.cells #[.string ⟨#[73, 78, 66, 79, 88]⟩, .int .i64 1, .slice none 0 0] 73)).alloc (.cells #[.slice (some ⟨w.heap.size + 1, 0, none⟩) 1 1, .slice none 0 0] 55)) (fun _ _ => 0)
    case atStart => exact ⟨rfl, rfl⟩
    case round =>
      obtain ⟨rfl, rfl⟩ := hrel; go_wp2; refine bodyPost_ret (v := .tuple #[.agg #[.slice (some ⟨w.heap.size + 1, 0, none⟩) 1 1, .slice none 0 0], .int .i64 0]) (by simp [results, Tryz.results15, go_sem]) rfl ?_; refine ⟨w.heap.size + 1, rfl, ?_, by omega, ((((Below.refl _ _).alloc (Nat.le_refl _) _).alloc (by simp) _).alloc (by simp; omega) _)⟩; have h1 := heap_alloc_new (w.alloc (.cells #[.slice (some ⟨w.heap.size + 1, 0, none⟩) 1 1, .slice none 0 0] 55)) (.cells #[.string ⟨#[73, 78, 66, 79, 88]⟩, .int .i64 1, .slice none 0 0] 73); have h2 : (w.alloc (.cells #[.slice (some ⟨w.heap.size + 1, 0, none⟩) 1 1, .slice none 0 0] 55)).heap.size = w.heap.size + 1 := by simp
      rw [h2] at h1; exact (((Below.refl _ _).alloc (Nat.le_refl _) _).block (w.heap.size + 1) (by simp)).trans h1
end Go.Proofs.YtlfgemnmfhknfaaGreatDoor
namespace Go.Proofs.YtlfgemnmfhknfaaGreatDoor
open Go.RowKit Go.Proofs
def jlS (m : Mail) : List Value := [.int .i64 m.uid, .int .i64 m.flags, .string (S m.text)]
def entC (x : Ent) : List Value := [.int .i64 x.kind, .string (S x.box), .int .i64 x.uid, .int .i64 x.flags, .string (S x.goal), .string (S x.text)]
def boxC (b : Bx) (v : Value) : List Value := [.string (S b.name), .int .i64 b.next, v]
def jmr (m : Mail) (cs : List Value) : Prop := cs = jlS m
def EntM (x : Ent) (cs : List Value) : Prop := cs = entC x
def MailsM (Q : Nat → Prop) (w : World) (v : Value) (l : List Mail) : Prop := RowM Q 3 jmr w v l
def EntsM (Q : Nat → Prop) (w : World) (v : Value) (l : List Ent) : Prop := RowM Q 6 EntM w v l
def BoxM (Q : Nat → Prop) (w : World) (b : Bx) (cs : List Value) : Prop := ∃ v, cs = boxC b v ∧ MailsM Q w v b.mails
def BoxsM (Q : Nat → Prop) (w : World) (v : Value) (l : List Bx) : Prop := RowM Q 3 (BoxM Q w) w v l
def SttM (Q : Nat → Prop) (w : World) (vb vs : Value) (s : Stt) : Prop := BoxsM Q w vb s.boxes ∧ EntsM Q w vs s.spool ∧ ∀ a n c, vb = .slice a n c → n ≤ c
theorem MailsM.imp {Q Q' : Nat → Prop} {w w' : World} {v : Value} {l : List Mail} (h : MailsM Q w v l) (hq : ∀ b, Q b → Q' b) (hk : Keeps Q w w') : MailsM Q' w' v l := RowM.imp h hq hk fun _ _ h => h
theorem EntsM.imp {Q Q' : Nat → Prop} {w w' : World} {v : Value} {l : List Ent} (h : EntsM Q w v l) (hq : ∀ b, Q b → Q' b) (hk : Keeps Q w w') : EntsM Q' w' v l := RowM.imp h hq hk fun _ _ h => h
theorem BoxM.imp {Q Q' : Nat → Prop} {w w' : World} {b : Bx} {cs : List Value} (h : BoxM Q w b cs) (hq : ∀ b, Q b → Q' b) (hk : Keeps Q w w') : BoxM Q' w' b cs := by
  obtain ⟨v, e, h⟩ := h; exact ⟨v, e, h.imp hq hk⟩
theorem BoxsM.imp {Q Q' : Nat → Prop} {w w' : World} {v : Value} {l : List Bx} (h : BoxsM Q w v l) (hq : ∀ b, Q b → Q' b) (hk : Keeps Q w w') : BoxsM Q' w' v l := RowM.imp h hq hk fun _ _ h => h.imp hq hk
theorem SttM.imp {Q Q' : Nat → Prop} {w w' : World} {vb vs : Value} {s : Stt} (h : SttM Q w vb vs s) (hq : ∀ b, Q b → Q' b) (hk : Keeps Q w w') : SttM Q' w' vb vs s := ⟨h.1.imp hq hk, h.2.1.imp hq hk, h.2.2⟩
theorem SttM.next {Q : Nat → Prop} {w w' : World} {vb vs : Value} {s : Stt} (h : SttM Q w vb vs s) (hb : Below w.heap.size w w') : SttM Q w' vb vs s := h.imp (fun _ h => h) (Keeps.of_below hb)
theorem BoxsM.next {Q : Nat → Prop} {w w' : World} {v : Value} {l : List Bx} (h : BoxsM Q w v l) (hb : Below w.heap.size w w') : BoxsM Q w' v l := h.imp (fun _ h => h) (Keeps.of_below hb)
theorem EntsM.next {Q : Nat → Prop} {w w' : World} {v : Value} {l : List Ent} (h : EntsM Q w v l) (hb : Below w.heap.size w w') : EntsM Q w' v l := h.imp (fun _ h => h) (Keeps.of_below hb)
theorem MailsM.next {Q : Nat → Prop} {w w' : World} {v : Value} {l : List Mail} (h : MailsM Q w v l) (hb : Below w.heap.size w w') : MailsM Q w' v l := h.imp (fun _ h => h) (Keeps.of_below hb)
theorem MailsM.at {Q : Nat → Prop} {w : World} {a : Option Addr} {n c : Nat} {l : List Mail} (h : MailsM Q w (.slice a n c) l) {i : Nat} {x : Mail} (hx : l[i]? = some x) : ∃ b o, a = some ⟨b, o, none⟩ ∧ Q b ∧ w.cell? ⟨b, o + i * 3, none⟩ = some (.int .i64 x.uid) ∧ w.cell? ⟨b, o + i * 3 + 1, none⟩ = some (.int .i64 x.flags) ∧ w.cell? ⟨b, o + i * 3 + 2, none⟩ = some (.string (S x.text)) := by
  obtain ⟨a', c', hv, _, hr⟩ := h; simp only [Value.slice.injEq] at hv; obtain ⟨rfl, _, rfl⟩ := hv; obtain ⟨b, o, cs, rfl, _, hq, _, hc, hP⟩ := hr i x hx; have hcs : cs = _ := hP; subst hcs; exact ⟨b, o, rfl, hq, by simpa using hc 0 _ rfl, hc 1 _ rfl, hc 2 _ rfl⟩
theorem BoxsM.at {Q : Nat → Prop} {w : World} {a : Option Addr} {n c : Nat} {l : List Bx} (h : BoxsM Q w (.slice a n c) l) {i : Nat} {x : Bx} (hx : l[i]? = some x) : ∃ b o v, a = some ⟨b, o, none⟩ ∧ Q b ∧ w.cell? ⟨b, o + i * 3, none⟩ = some (.string (S x.name)) ∧ w.cell? ⟨b, o + i * 3 + 1, none⟩ = some (.int .i64 x.next) ∧ w.cell? ⟨b, o + i * 3 + 2, none⟩ = some v ∧ MailsM Q w v x.mails := by
  obtain ⟨a', c', hv, _, hr⟩ := h; simp only [Value.slice.injEq] at hv; obtain ⟨rfl, _, rfl⟩ := hv; obtain ⟨b, o, cs, rfl, _, hq, _, hc, v, hcs, hm⟩ := hr i x hx; subst hcs; exact ⟨b, o, v, rfl, hq, by simpa using hc 0 _ rfl, hc 1 _ rfl, hc 2 _ rfl, hm⟩
theorem EntsM.at {Q : Nat → Prop} {w : World} {a : Option Addr} {n c : Nat} {l : List Ent} (h : EntsM Q w (.slice a n c) l) {i : Nat} {x : Ent} (hx : l[i]? = some x) : ∃ b o, a = some ⟨b, o, none⟩ ∧ Q b ∧ w.cell? ⟨b, o + i * 6, none⟩ = some (.int .i64 x.kind) ∧ w.cell? ⟨b, o + i * 6 + 1, none⟩ = some (.string (S x.box)) ∧ w.cell? ⟨b, o + i * 6 + 2, none⟩ = some (.int .i64 x.uid) ∧ w.cell? ⟨b, o + i * 6 + 3, none⟩ = some (.int .i64 x.flags) ∧ w.cell? ⟨b, o + i * 6 + 4, none⟩ = some (.string (S x.goal)) ∧ w.cell? ⟨b, o + i * 6 + 5, none⟩ = some (.string (S x.text)) := by
  obtain ⟨a', c', hv, _, hr⟩ := h; simp only [Value.slice.injEq] at hv; obtain ⟨rfl, _, rfl⟩ := hv; obtain ⟨b, o, cs, rfl, _, hq, _, hc, hP⟩ := hr i x hx; have hcs : cs = _ := hP; subst hcs; exact ⟨b, o, rfl, hq, by simpa using hc 0 _ rfl, hc 1 _ rfl, hc 2 _ rfl, hc 3 _ rfl, hc 4 _ rfl, hc 5 _ rfl⟩
theorem jbQ {k : Nat} : ∀ {css : List (List Value)} {i j : Nat} {cs : List Value}, (∀ c ∈ css, c.length = k) → css[i]? = some cs → j < k → css.flatten[i * k + j]? = cs[j]? := by
  intro css
  induction css with
  | nil => intro i j cs _ h _; simp at h
  | cons c css ih =>
    intro i j cs hk h hj; have hc : c.length = k := hk c (by simp); cases i with
    | zero =>
      simp at h
      subst h; simp only [Nat.zero_mul, Nat.zero_add, List.flatten_cons]; rw [List.getElem?_append_left (by omega)]
    | succ i =>
      have := ih (j := j) (fun c hc => hk c (by simp [hc])) (by simpa using h) hj; simp only [List.flatten_cons]; rw [List.getElem?_append_right (by rw [hc, Nat.add_mul]; omega), ← this]
      congr 1
      rw [hc, Nat.add_mul]; omega
def Apart (u v : Value) : Prop := ∀ k, u.ownBlock = some k → v.ownBlock ≠ some k
theorem Apart.symm {u v : Value} (h : Apart u v) : Apart v u := fun k hv hu => h k hu hv
def bxCs : List Bx → List Value → List (List Value)
  | b :: r, v :: vs => boxC b v :: bxCs r vs
  | _, _ => []
theorem jhE : ∀ (l : List Bx) (vs : List Value), ∀ cs ∈ bxCs l vs, cs.length = 3 := by
  intro l
  induction l with
  | nil => intro vs cs h; cases vs <;> cases h
  | cons b l ih =>
    intro vs cs h; cases vs with
    | nil => cases h
    | cons v vs =>
      simp only [bxCs, List.mem_cons] at h
      rcases h with rfl | h
      · rfl
      · exact ih vs cs h
theorem jk1 : ∀ (l : List Bx) (vs : List Value) (i : Nat) (b : Bx) (v : Value), l[i]? = some b → vs[i]? = some v → (bxCs l vs)[i]? = some (boxC b v) := by
  intro l
  induction l with
  | nil => intro vs i b v h; simp at h
  | cons c l ih =>
    intro vs i b v h h'; cases vs with
    | nil => simp at h'
    | cons u vs =>
      cases i with
      | zero => simp at h h'; subst h; subst h'; rfl
      | succ i => simp at h h'; simpa [bxCs] using ih vs i b v h h'
structure OwnS (B : Nat) (w : World) (vb vs : Value) (vm : List Value) (s : Stt) : Prop where
  boxes : w.ownsRow B 73 3 vb s.boxes.length (bxCs s.boxes vm).flatten
  spool : w.ownsRow B 30 6 vs s.spool.length (s.spool.map entC).flatten
  len : vm.length = s.boxes.length
  mails : ∀ (i : Nat) b v, s.boxes[i]? = some b → vm[i]? = some v → w.ownsRow B 100 3 v b.mails.length (b.mails.map jlS).flatten
  bs : Apart vb vs
  mb : ∀ v ∈ vm, Apart v vb
  ms : ∀ v ∈ vm, Apart v vs
  mm : ∀ (i j : Nat) u v, i ≠ j → vm[i]? = some u → vm[j]? = some v → Apart u v
def inS (vb vs : Value) (vm : List Value) (k : Nat) : Prop := vb.ownBlock = some k ∨ vs.ownBlock = some k ∨ ∃ v ∈ vm, v.ownBlock = some k
theorem jR {w w' : World} {B n k : Nat} {e : TypeId} {v : Value} {xs : List Value} (h : w.ownsRow B e k v n xs) (hk : ∀ g, v.ownBlock = some g → w'.heap[g]? = w.heap[g]?) : w'.ownsRow B e k v n xs := by
  refine ⟨h.1, ?_⟩
  rcases h.2 with hn | ⟨g, cap, cur, rfl, hb, hgg, rest⟩
  · exact .inl hn
  · exact .inr ⟨g, cap, cur, rfl, hb, (hk g rfl).trans hgg, rest⟩
theorem OwnS.keep {B : Nat} {w w' : World} {vb vs : Value} {vm : List Value} {s : Stt} (h : OwnS B w vb vs vm s) (hk : ∀ g, inS vb vs vm g → w'.heap[g]? = w.heap[g]?) : OwnS B w' vb vs vm s :=
  ⟨jR h.boxes fun g hg => hk g (.inl hg), jR h.spool fun g hg => hk g (.inr (.inl hg)), h.len, fun i b v hb hv => jR (h.mails i b v hb hv) fun g hg => hk g (.inr (.inr ⟨v, List.mem_of_getElem? hv, hg⟩)), h.bs, h.mb, h.ms, h.mm⟩
theorem OwnS.lt {B : Nat} {w : World} {vb vs : Value} {vm : List Value} {s : Stt} (h : OwnS B w vb vs vm s) {g : Nat} (hg : inS vb vs vm g) : B ≤ g ∧ g < w.heap.size := by
  rcases hg with hg | hg | ⟨v, hv, hg⟩
  · exact World.ownsRow.lt h.boxes g hg
  · exact World.ownsRow.lt h.spool g hg
  · obtain ⟨i, hi, rfl⟩ := List.getElem_of_mem hv; have hi' : i < s.boxes.length := by rw [← h.len]; exact hi
    exact World.ownsRow.lt (h.mails i _ _ (List.getElem?_eq_getElem hi') (List.getElem?_eq_getElem hi)) g hg
theorem OwnS.next {B : Nat} {w w' : World} {vb vs : Value} {vm : List Value} {s : Stt} (h : OwnS B w vb vs vm s) (hb : Below w.heap.size w w') : OwnS B w' vb vs vm s := h.keep fun g hg => hb.block g (h.lt hg).2
theorem je7 {A : Type} {B n k : Nat} {e : TypeId} {w : World} {v : Value} {l : List A} {css : List (List Value)} {P : A → List Value → Prop} {Q : Nat → Prop} (h : w.ownsRow B e k v n css.flatten) (hn : n = l.length) (hm : n ≤ maxLen) (hl : css.length = l.length) (he : ∀ cs ∈ css, cs.length = k)
    (hP : ∀ (i : Nat) x cs, l[i]? = some x → css[i]? = some cs → P x cs) (hQ : ∀ g, v.ownBlock = some g → Q g) : RowM Q k P w v l := by
  subst hn
  rcases h.2 with ⟨rfl, h0⟩ | ⟨g, cap, cur, rfl, hb, hg, h1, h2, h3, ht⟩
  · have : l = [] := List.length_eq_zero_iff.1 h0; subst this; exact jh _ _ _ _ _ _
  · refine ⟨some ⟨g, 0, none⟩, cap, rfl, hm, fun i x hx => ?_⟩; have hi : i < l.length := (List.getElem?_eq_some_iff.1 hx).1; have hc : css[i]? = some css[i] := List.getElem?_eq_getElem (by omega); refine ⟨g, 0, css[i], rfl, (Array.getElem?_eq_some_iff.1 hg).1, hQ g rfl, he _ (List.mem_of_getElem? hc), ?_, hP i x _ hx hc⟩; intro j u hj; have hjk : j < k := by rw [← he _ (List.mem_of_getElem? hc)]; exact (List.getElem?_eq_some_iff.1 hj).1
    have := World.ownsRow.cells h (g := g) rfl (i * k + j) u (by rw [jbQ he hc hjk]; exact hj); rw [Addr.add_lit] at this
    simpa [Nat.add_assoc] using this
theorem OwnS.small {B : Nat} {w : World} {vb vs : Value} {vm : List Value} {s : Stt} (h : OwnS B w vb vs vm s) : ∃ a c, vb = .slice a s.boxes.length c := by
  rcases h.boxes.2 with ⟨rfl, hn⟩ | ⟨g, cap, cur, rfl, _⟩
  · exact ⟨none, 0, by rw [hn]⟩
  · exact ⟨_, _, rfl⟩
theorem OwnS.box {B : Nat} {w : World} {vb vs : Value} {vm : List Value} {s : Stt} (h : OwnS B w vb vs vm s) {i : Nat} {b : Bx} (hb : s.boxes[i]? = some b) : ∃ g c v, vb = .slice (some ⟨g, 0, none⟩) s.boxes.length c ∧ vm[i]? = some v ∧ w.cell? ⟨g, i * 3, none⟩ = some (.string (S b.name)) ∧ w.cell? ⟨g, i * 3 + 1, none⟩ = some (.int .i64 b.next) ∧ w.cell? ⟨g, i * 3 + 2, none⟩ = some v ∧
    w.frozen? ⟨g, i * 3 + 1, none⟩ = false ∧ w.frozen? ⟨g, i * 3 + 2, none⟩ = false := by
  have hi0 : i < s.boxes.length := (List.getElem?_eq_some_iff.1 hb).1; have hi : i < vm.length := by rw [h.len]; exact hi0
  have hv : vm[i]? = some vm[i] := List.getElem?_eq_getElem hi
  rcases h.boxes.2 with ⟨_, hn⟩ | ⟨g, cap, cur, e, _, hg, _⟩
  · omega
  · have hat := jk1 _ _ _ _ _ hb hv; have hc : ∀ j u, (boxC b vm[i])[j]? = some u → w.cell? ⟨g, i * 3 + j, none⟩ = some u := fun j u hj => by
      have hj3 : j < 3 := (List.getElem?_eq_some_iff.1 hj).1; have := World.ownsRow.cells h.boxes (g := g) (by rw [e]; rfl) (i * 3 + j) u (by rw [jbQ (jhE _ _) hat hj3]; exact hj); rw [Addr.add_lit] at this
      simpa using this
    exact ⟨g, cap, _, e, hv, hc 0 _ rfl, hc 1 _ rfl, hc 2 _ rfl, by simp [World.frozen?, hg], by simp [World.frozen?, hg]⟩
end Go.Proofs.YtlfgemnmfhknfaaGreatDoor
namespace Go.Proofs.YtlfgemnmfhknfaaGreatDoor
open Go.RowKit Go.Proofs
theorem jkI : (Tryz.prog.info? 55).map (fun i => (i.zero, i.size, i.bytes)) = some (some (.agg #[.slice none 0 0, .slice none 0 0]), 2, 48) := by kernel_rfl
set_option maxHeartbeats 1000000 in
set_option maxRecDepth 100000 in
theorem jkU (ad : Addr) (n c : Nat) (news : List Value) (w : World) (hl : news.length = n * 2) (hn : n ≤ 1000) (hc : ∀ j u, news[j]? = some u → w.cell? (ad.add j) = some u) (h1 : ∀ u ∈ news, u.oneCell' = true) :
    Calls Tryz.prog 66 #[.slice (some ad) n c] w fun e w' => ∃ v', e = .returned v' ∧ (w'.ownsRow w.heap.size 55 2 v' n news) ∧ Below w.heap.size w w' := by
  obtain ⟨i0, hi, hz0, hz1, hz2⟩ := info_parts jkI; have q22 : ∀ (w : World) (a : Option Addr) (n c n' c' : Nat), (binOp .eql 35 (.slice a n c) (.slice none n' c')).run Tryz.prog w = .ok (.bool a.isNone) w := fun w a n c n' c' => Lib.run_eql_slice_nil w _ _ a n c n' c' Tryz.underlying35
  have HC := hid hc; have H1 := hid h1; have HL := hid hl; clear hc h1 hl; go_enter Tryz.func66, Tryz.ntmps66
  go_wp2_with (at_builtin; refine wpList_append_own _ rfl _ _ 35 rfl w.heap.size 55 i0 _ 2 48 Tryz.underlying35 hi hz0 hz1 hz2 rfl (by decide) _ _ _ rfl (World.ownsRow_made w #[] 0 (Nat.le_refl _) (Nat.zero_le _) rfl) ad n c news rfl ?qc1 ?qc2 ?qc3 ?qc4 ?qc5 ?qc6 ?_)
  case qc1 => exact HL.out
  case qc2 => exact fun j u hj => Lib.cell?_alloc_some _ (HC.out j u hj)
  case qc3 => exact H1.out
  case qc4 => unfold maxLen; omega
  case qc5 => omega
  case qc6 => simp
  intro v' w1 hown hgrow hnil; have HO := hid hown; have HB := hid (show Below w.heap.size w w1 from ((Below.refl _ w).alloc (Nat.le_refl _) _).grown hgrow (by simp) (by intro k hk; simp [Value.ownBlock] at hk; omega)); clear hown hgrow hnil; go_wp2; go_ret; exact ⟨v', rfl, by simpa using HO.out, HB.out⟩
theorem jbG {b : Nat} {w w' : World} (h : But b w w') (o : Nat) (v : Value) : But b w (w'.setCell ⟨b, o, none⟩ v) :=
  ⟨h.os, h.tape, h.output, by simpa [World.setCell] using h.size, fun k hk hn => (Below.heap_setCell _ _ _ _ hn).trans (h.block k hk hn)⟩
theorem jfD {b : Nat} {w w' : World} (h : But b w w') : But b w w'.drew := ⟨h.os, h.tape, h.output, h.size, h.block⟩
theorem jjF {b : Nat} {w w' : World} {p : Addr} {v : Value} (h : But b w w') (hp : w.cell? p = some v) (hn : p.block ≠ b) : w'.cell? p = some v :=
  (World.cell?_of_block (w := w) (h.block p.block (World.block_lt_of_cell? w _ hp) hn)).trans hp
theorem jih (a : Addr) (j : Nat) : (a.add j).block = a.block := by unfold Addr.add; split <;> rfl
def LgR (w : World) (b : Nat) (v0 v1 v2 v3 v4 v5 : Value) (wx : World) : Prop := wx.heap[b]? = some (.cells #[v0, v1, v2, v3, v4, v5] 79) ∧ But b w wx
theorem LgR.of {w : World} {b : Nat} {v0 v1 v2 v3 v4 v5 : Value} (h : w.heap[b]? = some (.cells #[v0, v1, v2, v3, v4, v5] 79)) (x y : Value) : LgR w b v0 v1 x y v4 v5 ((w.setCell ⟨b, 2, none⟩ x).setCell ⟨b, 3, none⟩ y).drew := by
  refine ⟨?_, jfD (jbG (jbG (But.refl _ _) 2 x) 3 y)⟩; have h1 := heap_setCell_same _ b 3 _ _ y (heap_setCell_same w b 2 _ _ x h)
  simp at h1
  exact h1
theorem LgR.of' {w : World} {b : Nat} {v0 v1 v2 v3 v4 v5 : Value} (h : w.heap[b]? = some (.cells #[v0, v1, v2, v3, v4, v5] 79)) (x y : Value) : LgR w b v0 v1 x y v4 v5 ((w.setCell ⟨b, 3, none⟩ y).setCell ⟨b, 2, none⟩ x).drew := by
  refine ⟨?_, jfD (jbG (jbG (But.refl _ _) 3 y) 2 x)⟩; have h1 := heap_setCell_same _ b 2 _ _ x (heap_setCell_same w b 3 _ _ y h)
  simp at h1
  exact h1
theorem jb8 {w : World} {B B' : Nat} {e : TypeId} {k n : Nat} {v : Value} {xs : List Value} (h : w.ownsRow B e k v n xs) (hB : B' ≤ B) : w.ownsRow B' e k v n xs := by
  refine ⟨h.1, ?_⟩
  rcases h.2 with h' | ⟨g, cap, cur, h1, h2, h3⟩
  · exact .inl h'
  · exact .inr ⟨g, cap, cur, h1, Nat.le_trans hB h2, h3⟩
def StP (w : World) (b : Nat) (td ts : Value) (sy wa : Int) (ad : Addr) (n c : Nat) (news : List Value) (e : Ending) (w' : World) : Prop :=
  (∃ v, e = .returned v) ∧ ∃ v', w'.heap[b]? = some (.cells #[td, ts, .int .i64 (sy + wa), .int .i64 0, v', .slice (some ad) n c] 79) ∧ w'.ownsRow w.heap.size 55 2 v' n news ∧ But b w w'
set_option maxHeartbeats 1000000 in
set_option maxRecDepth 100000 in
theorem jg8 (b : Nat) (td ts v4 : Value) (sy wa : Int) (ad : Addr) (n c : Nat) (news : List Value) (w : World) (hb : w.heap[b]? = some (.cells #[td, ts, .int .i64 sy, .int .i64 wa, v4, .slice (some ad) n c] 79))
    (hsy : 0 ≤ sy ∧ sy ≤ 1000000) (hwa : 0 ≤ wa ∧ wa ≤ 1000000) (hl : news.length = n * 2) (hn : n ≤ 1000) (hc : ∀ j u, news[j]? = some u → w.cell? (ad.add j) = some u) (h1 : ∀ u ∈ news, u.oneCell' = true) (had : ad.block ≠ b) :
    Calls Tryz.prog 37 #[.pointer (some ⟨b, 0, none⟩)] w (StP w b td ts sy wa ad n c news) := by
  have HB := hid hb; have HC := hid hc; have H1 := hid h1; have HL := hid hl; have hwr : IntKind.i64.wrap (sy + wa) = sy + wa := by rw [IntKind.wrap_i64]; omega
  obtain ⟨c0, c1, c2, c3, c4, c5⟩ := bx6 hb; have zf : ∀ o, w.frozen? ⟨b, o, none⟩ = false := fun o => by simp [World.frozen?, hb]
  clear hb hc h1 hl; go_enter Tryz.func37, Tryz.ntmps37; go_upto_region 0 with fail
  have HE1 := hid (LgR.of HB.out (.int .i64 (sy + wa)) (.int .i64 0)); have HE2 := hid (LgR.of' HB.out (.int .i64 (sy + wa)) (.int .i64 0))
  go_cut [] (fun wx => LgR w b td ts (.int .i64 (sy + wa)) (.int .i64 0) v4 (.slice (some ad) n c) wx)
  case first =>
    go_region_law (fail)
    all_goals first
      | (have HE := HE1; go_wp2_with fail; go_meet; exact HE.out)
      | (have HE := HE2; go_wp2_with fail; go_meet; exact HE.out)
      | fail
  case rest =>
    obtain ⟨hx, hB⟩ := hcut; obtain ⟨W1, rfl⟩ : ∃ W, W = wc := ⟨_, rfl⟩; have hlt : b < W1.heap.size := (Array.getElem?_eq_some_iff.1 hx).1; have HX := hid hx; have HBT := hid hB; have d5 : W1.cell? ⟨b, 5, none⟩ = some (.slice (some ad) n c) := by simp [World.cell?, hx]
    clear hx hB c0 c1 c2 c3 c4 c5 zf; go_wp2_with fail; refine (jkU ad n c news W1 HL.out hn (fun j u hj => jjF HBT.out (HC.out j u hj) (by rw [jih]; exact had)) H1.out).mono ?_; rintro e w2 ⟨v', rfl, ho, hb2⟩; obtain ⟨a', c', rfl⟩ := jbp ho; have hx2 := (hb2.block b hlt).trans HX.out; have e4 : w2.cell? ⟨b, 4, none⟩ = some v4 := by simp [World.cell?, hx2]
    have zf : ∀ o, w2.frozen? ⟨b, o, none⟩ = false := fun o => by simp [World.frozen?, hx2]
    have hz1 := HBT.out.size; have HE := hid (show StP w b td ts sy wa ad n c news (.returned (.tuple #[])) (w2.setCell ⟨b, 4, none⟩ (.slice a' n c')) from ⟨⟨_, rfl⟩, .slice a' n c', by have := heap_setCell_same w2 b 4 _ _ (.slice a' n c') hx2; simpa using this, by
      have h := jR (w' := w2.setCell ⟨b, 4, none⟩ (.slice a' n c')) ho fun g hg => Below.heap_setCell _ _ _ _ (fun e => by have e' : g = b := e; have := (World.ownsRow.lt ho g hg).1; omega)
      exact jb8 h hz1, jbG ((HBT.out).trans (But.of hb2)) 4 _⟩)
    clear ho hb2 hx2; go_wp2; go_end0; exact HE.out
end Go.Proofs.YtlfgemnmfhknfaaGreatDoor
