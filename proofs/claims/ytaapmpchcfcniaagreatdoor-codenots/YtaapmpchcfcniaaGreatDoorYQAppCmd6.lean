/-
  A row of commands that a call makes, and another one behind it: append as a law.
  Ops in memory, and the writer of them: the walks.
  The writer of ops adds one: the walk.
  The writer of ops sends jumps on, and copies what it takes over: the walks.
  What the writer of ops takes over is copied: the walks.
  The ops of a test are written: the walks.
-/
import Derived.Test.YtaapmpchcfcniaaGreatDoorYRowGw
import Derived.Test.YtaapmpchcfcniaaGreatDoorYQJudCrs5
import Derived.Test.YtaapmpchcfcniaaGreatDoorYQCodPur6
import Derived.Test.YtaapmpchcfcniaaGreatDoorYQJudChk5
import Derived.Deep.RegionLaw
import Derived.Deep.RegionHeld3
import Derived.Deep.DeepCutAuto
import Derived.Deep.MidRow
namespace Go.Proofs.YtaapmpchcfcniaaGreatDoor
open Go.RowKit Go.Proofs
end Go.Proofs.YtaapmpchcfcniaaGreatDoor
namespace Go.Proofs.YtaapmpchcfcniaaGreatDoor
open Go.RowKit Go.Proofs
def OpM (Q : Nat → Prop) (w : World) (x : Opr) (cs : List Value) : Prop := ∃ ts ds, cs = .int .i64 x.kind :: .int .i64 x.to :: (ts ++ ds) ∧ TstM Q 1 w x.test ts ∧ CmdM Q 2 w x.what ds
theorem qD : Firm (fun Q w (x : Opr) cs => OpM Q w x cs) := fun _ _ _ _ _ _ hq hk h => by
  obtain ⟨ts, ds, e, h1, h2⟩ := h; exact ⟨ts, ds, e, TstM.imp hq hk _ _ _ h1, CmdM.imp hq hk _ _ _ h2⟩
theorem zB (X : Nat → Prop) : Firm (fun Q w (x : Opr) cs => OpM (fun p => Q p ∧ ¬ X p) w x cs) := fun _ _ _ _ _ _ hq hk h => qD _ _ _ _ _ _ (fun b hb => ⟨hq b hb.1, hb.2⟩) ⟨hk.size, fun b hb hQ => hk.block b hb hQ.1⟩ h
theorem jmy {Q : Nat → Prop} {w : World} {x : Opr} {cs : List Value} (h : OpM Q w x cs) : cs.length = 22 := by
  obtain ⟨ts, ds, rfl, h1, h2⟩ := h; obtain ⟨_, _, _, _, _, _, _, _, rfl, _⟩ := jO h1; obtain ⟨_, _, _, _, _, _, _, _, _, _, _, _, _, _, rfl, _⟩ := zh h2; rfl
theorem jh2 {Q : Nat → Prop} {w : World} {x : Opr} {cs : List Value} (h : OpM Q w x cs) : ∀ u ∈ cs, u.oneCell' = true := by
  obtain ⟨ts, ds, rfl, h1, h2⟩ := h; intro u hu; simp only [List.mem_cons, List.mem_append] at hu
  rcases hu with rfl | rfl | hu | hu
  · rfl
  · rfl
  · exact jl1 h1 u hu
  · exact jkX h2 u hu
theorem jmj : (Tryz.prog.info? 116).map (fun i => (i.zero, i.size, i.bytes)) = some (some (.agg #[.int .i64 0, .int .i64 0, .int .i64 0, .int .i64 0, .int .i64 0, .slice none 0 0, .slice none 0 0, .bool false, .int .i64 0, .slice none 0 0, .int .i64 0, .slice none 0 0, .int .i64 0, .int .i64 0, .int .i64 0, .slice none 0 0, .slice none 0 0, .bool false, .int .i64 0, .slice none 0 0, .slice none 0 0, .slice none 0 0]), 22, 320) := by kernel_rfl
abbrev OwnOs (X : Nat → Prop) (B : Nat) : World → Value → List Opr → Prop := OwnRow B 22 116 (fun Q w x cs => OpM (fun p => Q p ∧ ¬ X p) w x cs)
abbrev OpsM (Q : Nat → Prop) (w : World) (v : Value) (l : List Opr) : Prop := RowM Q 22 (OpM Q w) w v l
def WrC (X : Nat → Prop) (w : World) (b : Nat) (acc : List Opr) : Prop := ∃ a k, w.heap[b]? = some (.cells #[.slice a acc.length k] 113) ∧ OwnOs X (b + 1) w (.slice a acc.length k) acc
def WrR (X : Nat → Prop) (w : World) (b : Nat) (acc : List Opr) (e : Ending) (w' : World) : Prop := (∃ v, e = .returned v) ∧ WrC X w' b acc ∧ Below b w w' ∧ FrC b w w'
theorem box1 {w : World} {p : Nat} {v0 : Value} {t : TypeId} (h : w.heap[p]? = some (.cells #[v0] t)) : w.cell? ⟨p, 0, none⟩ = some v0 ∧ w.frozen? ⟨p, 0, none⟩ = false := ⟨Box.cell h, Box.free h⟩
theorem zD {w : World} {b : Nat} {v0 : Value} {t : TypeId} (h : w.heap[b]? = some (.cells #[v0] t)) : rowC w b = v0.ownBlock := by
  unfold rowC; rw [(box1 h).1]; rfl
theorem WrC.grow {X : Nat → Prop} {w w' : World} {b : Nat} {acc : List Opr} (h : WrC X w b acc) (hb : Below w.heap.size w w') : WrC X w' b acc := by
  obtain ⟨a, k, h1, h2⟩ := h; exact ⟨a, k, jL hb h1, OwnRow.next' (zB X) h2 hb⟩
theorem WrC.lt {X : Nat → Prop} {w : World} {b : Nat} {acc : List Opr} (h : WrC X w b acc) : b < w.heap.size := by
  obtain ⟨a, k, h1, _⟩ := h; exact (Array.getElem?_eq_some_iff.1 h1).1
theorem FrC.app1 {b g H m cap n k : Nat} {a : Option Addr} {w Wx w5 : World} {u0 : Value} {t t' : TypeId} (h0 : w.heap[b]? = some (.cells #[.slice a n k] t))
    (hal : ∀ p, p < w.heap.size → Wx.heap[p]? = w.heap[p]?) (hsz : w.heap.size ≤ Wx.heap.size) (hg : Wx.grownBy w5 (Value.slice a n k).ownBlock) (hat : (Value.slice a n k).ownBlock = some g ∨ g = H) (hH : w.heap.size ≤ H) (h5 : w5.heap[b]? = some (.cells #[u0] t')) :
    FrC b w (w5.setCell ⟨b, 0, none⟩ (.slice (some ⟨g, 0, none⟩) m cap)) := by
  have hr : rowC (w5.setCell ⟨b, 0, none⟩ (.slice (some ⟨g, 0, none⟩) m cap)) b = some g := by
    unfold rowC; rw [World.cell?_setCell_same' w5 _ _ (by rw [(box1 h5).1]; rfl)]; rfl
  refine ⟨by have h2 := hg.size; simp [World.setCell]; omega, fun p hp hn hq => ?_, ?_⟩
  · rw [zD h0] at hq; rw [Below.heap_setCell _ _ _ _ hn, hg.block p (Nat.lt_of_lt_of_le hp hsz) hq, hal p hp]
  · rw [hr, zD h0]
    rcases hat with e | e
    · exact .inl e.symm
    · exact .inr ⟨g, rfl, by omega⟩
abbrev handQ (X : Nat → Prop) (w : World) (b : Nat) : Nat → Prop := fun p => (b < p ∧ p < w.heap.size ∧ some p ≠ rowC w b) ∧ ¬ X p
theorem OwnOs.set0 {X : Nat → Prop} {b : Nat} {w : World} {v u : Value} {l : List Opr} (h : OwnOs X (b + 1) w v l) : OwnOs X (b + 1) (w.setCell ⟨b, 0, none⟩ u) v l := OwnRow.keep (zB X) h (But.set w u) (by omega)
end Go.Proofs.YtaapmpchcfcniaaGreatDoor
namespace Go.Proofs.YtaapmpchcfcniaaGreatDoor
open Go.RowKit Go.Proofs
set_option maxHeartbeats 1000000 in
set_option maxRecDepth 100000 in
theorem jcH (X : Nat → Prop) (b : Nat) (acc : List Opr) (x : Opr) (v0 v1 v2 v3 v4 v5 v6 v7 v8 v9 v10 v11 v12 v13 v14 v15 v16 v17 v18 v19 v20 v21 : Value) (w : World) (h : WrC X w b acc) (hl : acc.length ≤ 1000) (hx : OpM (handQ X w b) w x [v0, v1, v2, v3, v4, v5, v6, v7, v8, v9, v10, v11, v12, v13, v14, v15, v16, v17, v18, v19, v20, v21]) :
    Calls Tryz.prog 74 #[.pointer (some ⟨b, 0, none⟩), .agg #[v0, v1, v2, v3, v4, v5, v6, v7, v8, v9, v10, v11, v12, v13, v14, v15, v16, v17, v18, v19, v20, v21]] w fun e w' => e = .returned (.int .i64 (acc.length : Int)) ∧ WrC X w' b (acc ++ [x]) ∧ Below b w w' ∧ FrC b w w' := by
  obtain ⟨a, k, h1, h2⟩ := h; have hlt : b < w.heap.size := (Array.getElem?_eq_some_iff.1 h1).1; have H0 := hid h1; obtain ⟨W1, hW1⟩ : ∃ W1, W1 = w.alloc (.cells #[v0, v1, v2, v3, v4, v5, v6, v7, v8, v9, v10, v11, v12, v13, v14, v15, v16, v17, v18, v19, v20, v21] 116) := ⟨_, rfl⟩; have hal : Below w.heap.size w W1 := by rw [hW1]; exact (Below.refl _ _).alloc (Nat.le_refl _) _
  have hs1 : W1.heap.size = w.heap.size + 1 := by rw [hW1]; simp
  have hb1 := jL hal h1; have hX : W1.heap[w.heap.size]? = some (.cells #[v0, v1, v2, v3, v4, v5, v6, v7, v8, v9, v10, v11, v12, v13, v14, v15, v16, v17, v18, v19, v20, v21] 116) := by rw [hW1]; exact heap_alloc_new w _
  have hRg : W1.drew.rangeAt w.heap.size 0 [v0, v1, v2, v3, v4, v5, v6, v7, v8, v9, v10, v11, v12, v13, v14, v15, v16, v17, v18, v19, v20, v21] := (World.rangeAt_drew _ _ _ _).2 fun j v hj => by rw [Nat.zero_add]; exact jc hX (by simpa using hj)
  have HRg := hid hRg; have HSZ := hid (show (Tryz.prog.info? 116).map (·.size) = some [v0, v1, v2, v3, v4, v5, v6, v7, v8, v9, v10, v11, v12, v13, v14, v15, v16, v17, v18, v19, v20, v21].length from show (Tryz.prog.info? 116).map (·.size) = some 22 by kernel_rfl); obtain ⟨q0, f0⟩ := box1 hb1; have q0a : ∀ o : Obj, (W1.alloc o).cell? ⟨b, 0, none⟩ = some (.slice a acc.length k) := fun o => jgK q0 o
  obtain ⟨i0, hi, hz0, hz1, hz2⟩ := info_parts jmj; obtain ⟨css, o1, o2, o3, o4⟩ := OwnRow.next' (zB X) h2 hal; have HO4 := hid o4; have HO1 := hid o1; have hneb : some b ≠ (Value.slice a acc.length k).ownBlock := fun e => by have := (World.ownsRow.lt o1 b e.symm).1; omega
  have hge : ∀ j, (Value.slice a acc.length k).ownBlock = some j → b ≤ j := fun j hj => by have := (World.ownsRow.lt o1 j hj).1; omega
  have HLEN := hid (jmy hx); have HONE := hid (jh2 hx); have HR0 := hid (zD h1); have HX := hid (show ∀ Wx : World, (∀ p, p < W1.heap.size → Wx.heap[p]? = W1.heap[p]?) → W1.heap.size ≤ Wx.heap.size → OpM (fun p => rowQ (b + 1) Wx (.slice a acc.length k) p ∧ ¬ X p) Wx x [v0, v1, v2, v3, v4, v5, v6, v7, v8, v9, v10, v11, v12, v13, v14, v15, v16, v17, v18, v19, v20, v21] from fun Wx hp hz => qD _ _ _ _ _ _ (fun p hp => ⟨⟨hp.1.1, by have := hp.1.2.1; omega, by rw [← zD h1]; exact hp.1.2.2⟩, hp.2⟩) ⟨by omega, fun p hp' _ => (hp p (by omega)).trans (hal.block p hp')⟩ hx); have HWE := hid hW1; have HAL := hid (show Below b w W1 from hal.mono (by omega)); have HBX := hid hb1; have HJO := hid (show ∀ o : Obj, ∀ p, p < W1.heap.size → (W1.drew.alloc o).heap[p]? = W1.heap[p]? from fun o p hp => jkC W1.drew o hp); have HJO0 := hid (show ∀ o : Obj, ∀ p, p < w.heap.size → (W1.drew.alloc o).heap[p]? = w.heap[p]? from fun o p hp => (jkC W1.drew o (show p < W1.heap.size by omega)).trans (hal.block p hp)); have HJS := hid (show ∀ o : Obj, W1.heap.size ≤ (W1.drew.alloc o).heap.size from fun o => by simp); have HEI := hid (show ∀ j u, [v0, v1, v2, v3, v4, v5, v6, v7, v8, v9, v10, v11, v12, v13, v14, v15, v16, v17, v18, v19, v20, v21][j]? = some u → (W1.drew.alloc (.cells #[v0, v1, v2, v3, v4, v5, v6, v7, v8, v9, v10, v11, v12, v13, v14, v15, v16, v17, v18, v19, v20, v21] 116)).cell? ((⟨w.heap.size + 1, 0, none⟩ : Addr).add j) = some u from by rw [← hs1]; exact jmf W1.drew [v0, v1, v2, v3, v4, v5, v6, v7, v8, v9, v10, v11, v12, v13, v14, v15, v16, v17, v18, v19, v20, v21] 116); clear h1 h2 hx hW1 hal hb1 hX o1 o4 hRg; go_enter Tryz.func74, Tryz.ntmps74; go_upto_region 1 with fail
  rw [← HWE.out]; refine wp_region_any (by kernel_rfl) ?_
  try (change wpAny _ _ _ _ _ _ _ (World.drew _))
  refine wpAny_take (i := 0) (v := ?va1) rfl (by kernel_rfl) (by kernel_rfl) (by kernel_rfl) (fun _ _ _ h => h) (Or.inl ⟨by rfl, ?hy1⟩) ?_
  case hy1 =>
    intro w
    go_simp
    all_goals with_reducible rfl
  refine wpAny_take (i := 1) (v := ?va2) rfl (by kernel_rfl) (by kernel_rfl) (by kernel_rfl) (fun _ _ _ h => h) (Or.inl ⟨by rfl, ?hy2⟩) ?_
  case hy2 =>
    intro w
    go_simp
    all_goals with_reducible rfl
  refine wpAny_take (i := 2) (v := ?va3) rfl (by kernel_rfl) (by kernel_rfl) (by kernel_rfl) (fun _ _ _ h => h) (Or.inl ⟨by rfl, ?hy3⟩) ?_
  case hy3 =>
    intro w
    go_simp
    all_goals with_reducible rfl
  refine wpAny_take (i := 3) (v := ?va4) rfl (by kernel_rfl) (by kernel_rfl) (by kernel_rfl) (fun _ _ _ h => h) (Or.inl ⟨by rfl, ?hy4⟩) ?_
  case hy4 =>
    intro w
    go_simp
    all_goals with_reducible rfl
  refine wpAny_ready (rs := [4, 5]) (by kernel_rfl) (by simp) ?_; refine AllReady.cons rfl (fun K hK => ?_) ?_
  · skip
    go_simp
    refine hK _ _ ?_; clear hK K; refine wpAny_ready (rs := [5]) (by kernel_rfl) (by simp) ?_; refine AllReady.cons rfl (fun K hK => ?_) ?_
    · skip
      rw [if_pos (by rfl)]; refine wp_load_mid 116 _ rfl w.heap.size 0 rfl [v0, v1, v2, v3, v4, v5, v6, v7, v8, v9, v10, v11, v12, v13, v14, v15, v16, v17, v18, v19, v20, v21] _ HRg.out Tryz.underlying116 rfl HSZ.out ?_; refine hK _ _ ?_; clear hK K; simp only [Act.put, List.setIfInBounds_toArray]; refine wpAny_ready (rs := [6]) (by kernel_rfl) (by simp) ?_; refine AllReady.cons rfl (fun K hK => ?_) ?_
      · skip
        go_simp
        refine hK _ _ ?_; clear hK K; refine wpAny_ready (rs := [7]) (by kernel_rfl) (by simp) ?_; refine AllReady.cons rfl (fun K hK => ?_) ?_
        · skip
          refine step_append_lies _ (by rfl) _ _ _ (by rfl) (b + 1) 116 i0 _ 22 320 Tryz.underlying36 hi hz0 hz1 hz2 rfl (by omega) (.slice a acc.length k) acc.length css.flatten (by rfl) (by first | exact World.ownsRow.alloc (show World.ownsRow W1.drew _ _ _ _ _ _ from HO1.out) _ | exact (World.ownsRow.alloc HO1.out _).drew)
            ⟨w.heap.size + 1, 0, none⟩ 1 1 [v0, v1, v2, v3, v4, v5, v6, v7, v8, v9, v10, v11, v12, v13, v14, v15, v16, v17, v18, v19, v20, v21] (by rfl) (by rfl) HEI.out HONE.out (by omega) (by unfold maxLen; omega) (by omega) (by simp; omega) _ rfl ?_
          intro g cap w5 hown5 hgrow hat hlt5; have HBb := hid (show w5.heap[b]? = some (.cells #[.slice a acc.length k] 113) from (hgrow.block b (by simp; omega) hneb).trans ((HJO.out _ b (by omega)).trans HBX.out)); have HBl := hid (show Below b w w5 from ((HAL.out.drew).alloc (by simp; omega) _).grown hgrow (by simp; omega) hge); have HOn := hid (show OwnOs X (b + 1) w5 (.slice (some ⟨g, 0, none⟩) (acc.length + 1) cap) (acc ++ [x]) from OwnRow.more (zB X) o2 o3 (fun i y cs hy hcs => zB X _ _ _ _ _ _ (fun p hp => ⟨hp.1, by have := hp.2.1; simp; omega, hp.2.2⟩) ⟨HJS.out _, fun p hp _ => HJO.out _ p hp⟩ (HO4.out i y cs hy hcs)) (HX.out _ (HJO.out _) (HJS.out _)) HLEN.out hown5 hgrow (by
            rcases hat with e | e
            · exact .inl e.symm
            · exact .inr (by rw [e]; rfl)) (Nat.le_refl _))
          have HFr := hid (show FrC b w (w5.setCell ⟨b, 0, none⟩ (.slice (some ⟨g, 0, none⟩) (acc.length + 1) cap)) from FrC.app1 H0.out (HJO0.out _) (by have := HJS.out (.cells #[v0, v1, v2, v3, v4, v5, v6, v7, v8, v9, v10, v11, v12, v13, v14, v15, v16, v17, v18, v19, v20, v21] 116); omega) hgrow hat (by simp; omega) HBb.out); obtain ⟨t0, u0⟩ := box1 HBb.out; clear hgrow hat hown5
          try go_simp
          refine hK _ _ ?_; clear hK K; refine wpAny_take (i := 8) (v := ?va5) rfl (by kernel_rfl) (by kernel_rfl) (by kernel_rfl) (fun _ _ _ h => h) (Or.inl ⟨by rfl, ?hy5⟩) ?_
          case hy5 =>
            intro w
            go_simp
            all_goals with_reducible rfl
          refine wpAny_take (i := 9) (v := ?va6) rfl (by kernel_rfl) (by kernel_rfl) (by kernel_rfl) (fun _ _ _ h => h) (Or.inl ⟨by rfl, ?hy6⟩) ?_
          case hy6 =>
            intro w
            go_simp
            all_goals with_reducible rfl
          refine wpAny_ready (rs := [10]) (by kernel_rfl) (by simp) ?_; refine AllReady.cons rfl (fun K hK => ?_) ?_
          · skip
            go_simp
            refine hK _ _ ?_; clear hK K; refine wpAny_done (by kernel_rfl) ?_ _; have HE := hid (show WrC X (w5.setCell ⟨b, 0, none⟩ (.slice (some ⟨g, 0, none⟩) (acc.length + 1) cap)) b (acc ++ [x]) from ⟨some ⟨g, 0, none⟩, cap, by
              have := jcm HBb.out 0 (.slice (some ⟨g, 0, none⟩) (acc.length + 1) cap)
              simpa using this, by
              have := OwnOs.set0 (u := .slice (some ⟨g, 0, none⟩) (acc.length + 1) cap) HOn.out
              simpa using this⟩)
            have HE2 := hid (show Below b w (w5.setCell ⟨b, 0, none⟩ (.slice (some ⟨g, 0, none⟩) (acc.length + 1) cap)) from HBl.out.setCell (Nat.le_refl _) _); go_wp2; go_ret; exact ⟨by simp, HE.out, HE2.out, HFr.out⟩
          exact AllReady.nil
        exact AllReady.nil
      exact AllReady.nil
    exact AllReady.nil
  refine AllReady.cons rfl (fun K hK => ?_) ?_
  · skip
    rw [if_pos (by rfl)]; refine wp_load_mid 116 _ rfl w.heap.size 0 rfl [v0, v1, v2, v3, v4, v5, v6, v7, v8, v9, v10, v11, v12, v13, v14, v15, v16, v17, v18, v19, v20, v21] _ HRg.out Tryz.underlying116 rfl HSZ.out ?_; refine hK _ _ ?_; clear hK K; simp only [Act.put, List.setIfInBounds_toArray]; refine wpAny_ready (rs := [4, 6]) (by kernel_rfl) (by simp) ?_; refine AllReady.cons rfl (fun K hK => ?_) ?_
    · skip
      go_simp
      refine hK _ _ ?_; clear hK K; refine wpAny_ready (rs := [6]) (by kernel_rfl) (by simp) ?_; refine AllReady.cons rfl (fun K hK => ?_) ?_
      · skip
        go_simp
        refine hK _ _ ?_; clear hK K; refine wpAny_ready (rs := [7]) (by kernel_rfl) (by simp) ?_; refine AllReady.cons rfl (fun K hK => ?_) ?_
        · skip
          refine step_append_lies _ (by rfl) _ _ _ (by rfl) (b + 1) 116 i0 _ 22 320 Tryz.underlying36 hi hz0 hz1 hz2 rfl (by omega) (.slice a acc.length k) acc.length css.flatten (by rfl) (by first | exact World.ownsRow.alloc (show World.ownsRow W1.drew _ _ _ _ _ _ from HO1.out) _ | exact (World.ownsRow.alloc HO1.out _).drew)
            ⟨w.heap.size + 1, 0, none⟩ 1 1 [v0, v1, v2, v3, v4, v5, v6, v7, v8, v9, v10, v11, v12, v13, v14, v15, v16, v17, v18, v19, v20, v21] (by rfl) (by rfl) HEI.out HONE.out (by omega) (by unfold maxLen; omega) (by omega) (by simp; omega) _ rfl ?_
          intro g cap w5 hown5 hgrow hat hlt5; have HBb := hid (show w5.heap[b]? = some (.cells #[.slice a acc.length k] 113) from (hgrow.block b (by simp; omega) hneb).trans ((HJO.out _ b (by omega)).trans HBX.out)); have HBl := hid (show Below b w w5 from ((HAL.out.drew).alloc (by simp; omega) _).grown hgrow (by simp; omega) hge); have HOn := hid (show OwnOs X (b + 1) w5 (.slice (some ⟨g, 0, none⟩) (acc.length + 1) cap) (acc ++ [x]) from OwnRow.more (zB X) o2 o3 (fun i y cs hy hcs => zB X _ _ _ _ _ _ (fun p hp => ⟨hp.1, by have := hp.2.1; simp; omega, hp.2.2⟩) ⟨HJS.out _, fun p hp _ => HJO.out _ p hp⟩ (HO4.out i y cs hy hcs)) (HX.out _ (HJO.out _) (HJS.out _)) HLEN.out hown5 hgrow (by
            rcases hat with e | e
            · exact .inl e.symm
            · exact .inr (by rw [e]; rfl)) (Nat.le_refl _))
          have HFr := hid (show FrC b w (w5.setCell ⟨b, 0, none⟩ (.slice (some ⟨g, 0, none⟩) (acc.length + 1) cap)) from FrC.app1 H0.out (HJO0.out _) (by have := HJS.out (.cells #[v0, v1, v2, v3, v4, v5, v6, v7, v8, v9, v10, v11, v12, v13, v14, v15, v16, v17, v18, v19, v20, v21] 116); omega) hgrow hat (by simp; omega) HBb.out); obtain ⟨t0, u0⟩ := box1 HBb.out; clear hgrow hat hown5
          try go_simp
          refine hK _ _ ?_; clear hK K; refine wpAny_take (i := 8) (v := ?va7) rfl (by kernel_rfl) (by kernel_rfl) (by kernel_rfl) (fun _ _ _ h => h) (Or.inl ⟨by rfl, ?hy7⟩) ?_
          case hy7 =>
            intro w
            go_simp
            all_goals with_reducible rfl
          refine wpAny_take (i := 9) (v := ?va8) rfl (by kernel_rfl) (by kernel_rfl) (by kernel_rfl) (fun _ _ _ h => h) (Or.inl ⟨by rfl, ?hy8⟩) ?_
          case hy8 =>
            intro w
            go_simp
            all_goals with_reducible rfl
          refine wpAny_ready (rs := [10]) (by kernel_rfl) (by simp) ?_; refine AllReady.cons rfl (fun K hK => ?_) ?_
          · skip
            go_simp
            refine hK _ _ ?_; clear hK K; refine wpAny_done (by kernel_rfl) ?_ _; have HE := hid (show WrC X (w5.setCell ⟨b, 0, none⟩ (.slice (some ⟨g, 0, none⟩) (acc.length + 1) cap)) b (acc ++ [x]) from ⟨some ⟨g, 0, none⟩, cap, by
              have := jcm HBb.out 0 (.slice (some ⟨g, 0, none⟩) (acc.length + 1) cap)
              simpa using this, by
              have := OwnOs.set0 (u := .slice (some ⟨g, 0, none⟩) (acc.length + 1) cap) HOn.out
              simpa using this⟩)
            have HE2 := hid (show Below b w (w5.setCell ⟨b, 0, none⟩ (.slice (some ⟨g, 0, none⟩) (acc.length + 1) cap)) from HBl.out.setCell (Nat.le_refl _) _); go_wp2; go_ret; exact ⟨by simp, HE.out, HE2.out, HFr.out⟩
          exact AllReady.nil
        exact AllReady.nil
      exact AllReady.nil
    refine AllReady.cons rfl (fun K hK => ?_) ?_
    · skip
      go_simp
      refine hK _ _ ?_; clear hK K; refine wpAny_ready (rs := [4]) (by kernel_rfl) (by simp) ?_; refine AllReady.cons rfl (fun K hK => ?_) ?_
      · skip
        go_simp
        refine hK _ _ ?_; clear hK K; refine wpAny_ready (rs := [7]) (by kernel_rfl) (by simp) ?_; refine AllReady.cons rfl (fun K hK => ?_) ?_
        · skip
          refine step_append_lies _ (by rfl) _ _ _ (by rfl) (b + 1) 116 i0 _ 22 320 Tryz.underlying36 hi hz0 hz1 hz2 rfl (by omega) (.slice a acc.length k) acc.length css.flatten (by rfl) (by first | exact World.ownsRow.alloc (show World.ownsRow W1.drew _ _ _ _ _ _ from HO1.out) _ | exact (World.ownsRow.alloc HO1.out _).drew)
            ⟨w.heap.size + 1, 0, none⟩ 1 1 [v0, v1, v2, v3, v4, v5, v6, v7, v8, v9, v10, v11, v12, v13, v14, v15, v16, v17, v18, v19, v20, v21] (by rfl) (by rfl) HEI.out HONE.out (by omega) (by unfold maxLen; omega) (by omega) (by simp; omega) _ rfl ?_
          intro g cap w5 hown5 hgrow hat hlt5; have HBb := hid (show w5.heap[b]? = some (.cells #[.slice a acc.length k] 113) from (hgrow.block b (by simp; omega) hneb).trans ((HJO.out _ b (by omega)).trans HBX.out)); have HBl := hid (show Below b w w5 from ((HAL.out.drew).alloc (by simp; omega) _).grown hgrow (by simp; omega) hge); have HOn := hid (show OwnOs X (b + 1) w5 (.slice (some ⟨g, 0, none⟩) (acc.length + 1) cap) (acc ++ [x]) from OwnRow.more (zB X) o2 o3 (fun i y cs hy hcs => zB X _ _ _ _ _ _ (fun p hp => ⟨hp.1, by have := hp.2.1; simp; omega, hp.2.2⟩) ⟨HJS.out _, fun p hp _ => HJO.out _ p hp⟩ (HO4.out i y cs hy hcs)) (HX.out _ (HJO.out _) (HJS.out _)) HLEN.out hown5 hgrow (by
            rcases hat with e | e
            · exact .inl e.symm
            · exact .inr (by rw [e]; rfl)) (Nat.le_refl _))
          have HFr := hid (show FrC b w (w5.setCell ⟨b, 0, none⟩ (.slice (some ⟨g, 0, none⟩) (acc.length + 1) cap)) from FrC.app1 H0.out (HJO0.out _) (by have := HJS.out (.cells #[v0, v1, v2, v3, v4, v5, v6, v7, v8, v9, v10, v11, v12, v13, v14, v15, v16, v17, v18, v19, v20, v21] 116); omega) hgrow hat (by simp; omega) HBb.out); obtain ⟨t0, u0⟩ := box1 HBb.out; clear hgrow hat hown5
          try go_simp
          refine hK _ _ ?_; clear hK K; refine wpAny_take (i := 8) (v := ?va9) rfl (by kernel_rfl) (by kernel_rfl) (by kernel_rfl) (fun _ _ _ h => h) (Or.inl ⟨by rfl, ?hy9⟩) ?_
          case hy9 =>
            intro w
            go_simp
            all_goals with_reducible rfl
          refine wpAny_take (i := 9) (v := ?va10) rfl (by kernel_rfl) (by kernel_rfl) (by kernel_rfl) (fun _ _ _ h => h) (Or.inl ⟨by rfl, ?hy10⟩) ?_
          case hy10 =>
            intro w
            go_simp
            all_goals with_reducible rfl
          refine wpAny_ready (rs := [10]) (by kernel_rfl) (by simp) ?_; refine AllReady.cons rfl (fun K hK => ?_) ?_
          · skip
            go_simp
            refine hK _ _ ?_; clear hK K; refine wpAny_done (by kernel_rfl) ?_ _; have HE := hid (show WrC X (w5.setCell ⟨b, 0, none⟩ (.slice (some ⟨g, 0, none⟩) (acc.length + 1) cap)) b (acc ++ [x]) from ⟨some ⟨g, 0, none⟩, cap, by
              have := jcm HBb.out 0 (.slice (some ⟨g, 0, none⟩) (acc.length + 1) cap)
              simpa using this, by
              have := OwnOs.set0 (u := .slice (some ⟨g, 0, none⟩) (acc.length + 1) cap) HOn.out
              simpa using this⟩)
            have HE2 := hid (show Below b w (w5.setCell ⟨b, 0, none⟩ (.slice (some ⟨g, 0, none⟩) (acc.length + 1) cap)) from HBl.out.setCell (Nat.le_refl _) _); go_wp2; go_ret; exact ⟨by simp, HE.out, HE2.out, HFr.out⟩
          exact AllReady.nil
        exact AllReady.nil
      exact AllReady.nil
    exact AllReady.nil
  exact AllReady.nil
end Go.Proofs.YtaapmpchcfcniaaGreatDoor
namespace Go.Proofs.YtaapmpchcfcniaaGreatDoor
open Go.RowKit Go.Proofs
def NumM (x : Nat) (cs : List Value) : Prop := cs = [.int .i64 (x : Int)]
abbrev NumsM (Q : Nat → Prop) (w : World) (v : Value) (l : List Nat) : Prop := RowM Q 1 NumM w v l
theorem jmv {Q : Nat → Prop} {w : World} {a : Option Addr} {c : Nat} {l : List Nat} (h : NumsM Q w (.slice a l.length c) l) {i : Nat} {x : Nat} (hx : l[i]? = some x) : ∃ b o, a = some ⟨b, o, none⟩ ∧ b < w.heap.size ∧ Q b ∧ w.cell? ⟨b, o + i, none⟩ = some (.int .i64 (x : Int)) := by
  obtain ⟨a', c', hv, _, hr⟩ := h; simp only [Value.slice.injEq, true_and] at hv; obtain ⟨rfl, rfl⟩ := hv; obtain ⟨b, o, cs, ha, hb, hq, _, hc, rfl⟩ := hr i x hx; exact ⟨b, o, ha, hb, hq, by simpa using hc 0 _ rfl⟩
theorem jeg {k j : Nat} {u : Value} : ∀ {css : List (List Value)} {i : Nat} {cs : List Value}, (∀ c ∈ css, c.length = k) → css[i]? = some cs → j < k → css.flatten.set (i * k + j) u = (css.set i (cs.set j u)).flatten := by
  intro css
  induction css with
  | nil => intro i cs _ h _; simp at h
  | cons c css ih =>
    intro i cs hk h hj; have hc : c.length = k := hk c (by simp); cases i with
    | zero =>
      simp at h
      subst h; simp only [Nat.zero_mul, Nat.zero_add, List.flatten_cons, List.set_cons_zero]; rw [List.set_append_left _ _ (by omega)]
    | succ i =>
      have := ih (fun c hc => hk c (by simp [hc])) (by simpa using h) hj; simp only [List.flatten_cons, List.set_cons_succ]; rw [List.set_append_right _ _ (by rw [hc, Nat.add_mul]; omega), ← this]
      congr 2
      rw [hc, Nat.add_mul]; omega
theorem jj5 {N : Nat} {L : List Opr} {p : Nat} {x : Opr} (h : L[p]? = some x) : qF N L p = L.set p (jdO N x) := by
  unfold qF
  induction L generalizing p with
  | nil => simp at h
  | cons y L ih =>
    cases p with
    | zero => simp at h; subst h; rfl
    | succ p => simp only [List.modify_succ_cons, List.set_cons_succ]; rw [ih (by simpa using h)]
theorem OwnOs.send {X : Nat → Prop} {B N p g cap : Nat} {w : World} {L : List Opr} (h : OwnOs X B w (.slice (some ⟨g, 0, none⟩) L.length cap) L) (hp : p < L.length) : OwnOs X B (w.setCell ⟨g, p * 22 + 1, none⟩ (.int .i64 (N : Int))) (.slice (some ⟨g, 0, none⟩) L.length cap) (qF N L p) := by
  obtain ⟨css, h1, h2, h3, h4⟩ := h; obtain ⟨x, hx⟩ : ∃ x, L[p]? = some x := ⟨_, List.getElem?_eq_getElem hp⟩; obtain ⟨cs, hcs⟩ : ∃ cs, css[p]? = some cs := ⟨_, List.getElem?_eq_getElem (by omega)⟩; rw [jj5 hx]; have hq : ∀ b, rowQ B w (.slice (some ⟨g, 0, none⟩) L.length cap) b → b ≠ g := fun b hb e => hb.2.2 (by rw [e]; rfl)
  have hfirm : ∀ (y : Opr) (ds : List Value), OpM (fun q => rowQ B w (.slice (some ⟨g, 0, none⟩) L.length cap) q ∧ ¬ X q) w y ds → OpM (fun q => rowQ B (w.setCell ⟨g, p * 22 + 1, none⟩ (.int .i64 (N : Int))) (.slice (some ⟨g, 0, none⟩) L.length cap) q ∧ ¬ X q) (w.setCell ⟨g, p * 22 + 1, none⟩ (.int .i64 (N : Int))) y ds := fun y ds hy => zB X _ _ _ _ _ _ (fun b hb => ⟨hb.1, by simpa [World.setCell] using hb.2.1, hb.2.2⟩) (Keeps.set w _ hq) hy
  refine ⟨css.set p (cs.set 1 (.int .i64 (N : Int))), ?_, by simp [h2], ?_, ?_⟩
  · rw [← jeg h3 hcs (by omega), List.length_set]; exact jlC h1 _ _
  · intro c hc
    rcases List.mem_or_eq_of_mem_set hc with e | e
    · exact h3 c e
    · rw [e, List.length_set]; exact h3 cs (List.mem_of_getElem? hcs)
  · intro i y d hy hd; rw [List.getElem?_set] at hy hd
    by_cases e : p = i
    · subst e; rw [if_pos rfl, if_pos hp] at hy; rw [if_pos rfl, if_pos (by omega)] at hd; cases hy; cases hd; obtain ⟨ts, ds, rfl, k1, k2⟩ := hfirm x cs (h4 p x cs hx hcs); exact ⟨ts, ds, rfl, k1, k2⟩
    · rw [if_neg e] at hy hd; exact hfirm y d (h4 i y d hy hd)
theorem jjN {X : Nat → Prop} {B p g cap : Nat} {w : World} {L : List Opr} (h : OwnOs X B w (.slice (some ⟨g, 0, none⟩) L.length cap) L) (hp : p < L.length) : (∃ v, w.cell? ⟨g, p * 22 + 1, none⟩ = some v) ∧ w.frozen? ⟨g, p * 22 + 1, none⟩ = false ∧ B ≤ g ∧ g < w.heap.size := by
  obtain ⟨css, h1, h2, h3, h4⟩ := h; obtain ⟨cs, hcs⟩ : ∃ cs, css[p]? = some cs := ⟨_, List.getElem?_eq_getElem (by omega)⟩; have hk := h3 cs (List.mem_of_getElem? hcs); have hc := World.ownsRow.cells h1 (g := g) rfl (p * 22 + 1) (cs[1]'(by omega)) (by rw [jcl h3 hcs (by omega)]; exact List.getElem?_eq_getElem (by omega)); rw [Addr.add_lit, Nat.zero_add] at hc; refine ⟨⟨_, hc⟩, ?_, World.ownsRow.lt h1 g rfl⟩
  rcases h1.2 with ⟨e, _⟩ | ⟨g', cap', cur, e, _, hg, _⟩
  · cases e
  · simp only [Value.slice.injEq, Option.some.injEq, Addr.mk.injEq, and_true, true_and] at e; obtain ⟨rfl, rfl⟩ := e; exact jz hg _
theorem OwnOs.addr {X : Nat → Prop} {B : Nat} {w : World} {a : Option Addr} {k : Nat} {L : List Opr} (h : OwnOs X B w (.slice a L.length k) L) (h0 : 0 < L.length) : ∃ g, a = some ⟨g, 0, none⟩ := by
  obtain ⟨css, h1, _⟩ := h
  rcases h1.2 with ⟨e, hn⟩ | ⟨g', cap', cur, e, _⟩
  · omega
  · simp only [Value.slice.injEq] at e; exact ⟨g', e.1⟩
def SndP (X : Nat → Prop) (w : World) (b : Nat) (acc : List Opr) (l : List Nat) (a ra : Option Addr) (c k : Nat) (L : List Opr) (wr : World) : Prop :=
  L.length = acc.length ∧ wr.heap[b]? = some (.cells #[.slice ra acc.length k] 113) ∧ OwnOs X (b + 1) wr (.slice ra L.length k) L ∧ NumsM (fun p => p ≠ b ∧ some p ≠ rowC w b) wr (.slice a l.length c) l ∧ Below b w wr ∧ FrC b w wr
theorem SndP.drew {X : Nat → Prop} {w wr : World} {b c k : Nat} {acc L : List Opr} {l : List Nat} {a ra : Option Addr} (h : SndP X w b acc l a ra c k L wr) : SndP X w b acc l a ra c k L wr.drew := by
  obtain ⟨g0, g1, g2, g3, g4, g5⟩ := h; have hb : Below wr.heap.size wr wr.drew := (Below.refl _ _).drew; exact ⟨g0, jL hb g1, OwnRow.next' (zB X) g2 hb, RowM.imp g3 (fun _ h => h) (Keeps.of_below hb) (fun _ _ h => h), g4.drew, g5.trans (FrC.below (Array.getElem?_eq_some_iff.1 g1).1 hb)⟩
set_option maxHeartbeats 1000000 in
set_option maxRecDepth 100000 in
theorem jdP (X : Nat → Prop) (b : Nat) (acc : List Opr) (l : List Nat) (a : Option Addr) (c : Nat) (w : World) (h : WrC X w b acc) (hl : acc.length ≤ 1000) (hn : l.length ≤ 1000) (hp : ∀ p ∈ l, p < acc.length) (hL : NumsM (fun p => p ≠ b ∧ some p ≠ rowC w b) w (.slice a l.length c) l) :
    Calls Tryz.prog 118 #[.pointer (some ⟨b, 0, none⟩), .slice a l.length c] w (WrR X w b (l.foldl (qF acc.length) acc)) := by
  obtain ⟨ra, k, h1, h2⟩ := h; have HP := hid hp; have HS := hid (show SndP X w b acc l a ra c k acc w from ⟨rfl, h1, h2, hL, Below.refl _ _, FrC.below (Array.getElem?_eq_some_iff.1 h1).1 (Below.refl _ _)⟩); have HR := hid (zD h1); clear h1 h2 hL hp; go_enter Tryz.func118, Tryz.ntmps118; go_wp2
  go_loopw [8] (fun i wr => ∃ m : Nat, m ≤ l.length ∧ i = .int .i64 m ∧ Hid (SndP X w b acc l a ra c k ((l.take m).foldl (qF acc.length) acc) wr)) (fun i _ => l.length - (intOf i).toNat)
  case atStart => exact ⟨0, Nat.zero_le _, rfl, HS⟩
  case round =>
    obtain ⟨m, hm, rfl, HI⟩ := hrel
    by_cases hlt : m < l.length
    · have i1 : (m : Int) < (l.length : Int) := by omega
      have i3 : (0 : Int) ≤ (m : Int) := by omega
      obtain ⟨p, hpm⟩ : ∃ p, l[m]? = some p := ⟨_, List.getElem?_eq_getElem hlt⟩; obtain ⟨L, hLe⟩ : ∃ L, L = (l.take m).foldl (qF acc.length) acc := ⟨_, rfl⟩; have HLE := hid (show qF acc.length L p = (l.take (m + 1)).foldl (qF acc.length) acc by rw [hLe, List.take_add_one, hpm, List.foldl_append]; rfl); rw [← hLe] at HI; obtain ⟨g0, g1, g2, g3, g4, g5⟩ := HI.out; have hpl : p < acc.length := HP.out p (List.mem_of_getElem? hpm); obtain ⟨g, rfl⟩ := OwnOs.addr g2 (by omega); obtain ⟨⟨v0, x1⟩, x2, x3, x4⟩ := jjN g2 (p := p) (by omega); obtain ⟨b', o', rfl, y1, y2, y3⟩ := jmv g3 hpm; obtain ⟨q0, f0⟩ := box1 g1; have hgb : g ≠ b := by omega
      have q0' : ∀ u, (wr.setCell ⟨g, p * 22 + 1, none⟩ u).cell? ⟨b, 0, none⟩ = some (.slice (some ⟨g, 0, none⟩) acc.length k) := fun u => jh q0 (fun e => hgb e.symm)
      have i5 : (p : Int) < (acc.length : Int) := by omega
      have i6 : (0 : Int) ≤ (p : Int) := by omega
      have HN := hid (show SndP X w b acc l (some ⟨b', o', none⟩) (some ⟨g, 0, none⟩) c k (qF acc.length L p) (wr.setCell ⟨g, p * 22 + 1, none⟩ (.int .i64 (acc.length : Int))) from by
        have hrow : rowC w b = some g := HR.out; refine ⟨by simp [qF, g0], ?_, ?_, ?_, ?_, ?_⟩
        · rw [Below.heap_setCell _ _ _ _ (fun e => hgb e.symm)]; exact g1
        · have := OwnOs.send (N := acc.length) g2 (p := p) (by omega); rw [show (qF acc.length L p).length = L.length by simp [qF]]; exact this
        · exact RowM.imp g3 (fun _ h => h) (Keeps.set wr _ (fun q hq e => hq.2 (by rw [hrow, e]))) fun _ _ h => h
        · exact g4.setCell (show b ≤ g by omega) _
        · refine g5.trans ⟨by simp [World.setCell], fun q hq hn hr => Below.heap_setCell _ _ _ _ (fun e => hr (by rw [zD g1, e]; rfl)), .inl ?_⟩; rw [zD g1, zD (show (wr.setCell ⟨g, p * 22 + 1, none⟩ (.int .i64 (acc.length : Int))).heap[b]? = _ from by rw [Below.heap_setCell _ _ _ _ (fun e => hgb e.symm)]; exact g1)])
      clear g0 g1 g2 g3 g4 g5 hLe hpm HI y1 y2; go_wp2
      go_region_law (fail)
      all_goals
        go_wp2
        go_roundw
        case rel => exact ⟨m + 1, by omega, by go_num, by rw [← HLE.out]; exact hid HN.out.drew⟩
        case measure => simp [intOf]; omega
    · have i1 : ¬ (m : Int) < (l.length : Int) := by omega
      obtain rfl : m = l.length := by omega
      have HE := hid (show WrR X w b (l.foldl (qF acc.length) acc) (.returned (.tuple #[])) wr by
        obtain ⟨g0, g1, g2, g3, g4, g5⟩ := HI.out; rw [List.take_length] at g0 g2; exact ⟨⟨_, rfl⟩, ⟨ra, k, by rw [g0]; exact g1, g2⟩, g4, g5⟩)
      go_wp2; go_end0; exact HE.out
end Go.Proofs.YtaapmpchcfcniaaGreatDoor
namespace Go.Proofs.YtaapmpchcfcniaaGreatDoor
open Go.RowKit Go.Proofs
theorem jli : (Tryz.prog.info? 9).map (fun i => (i.zero, i.size, i.bytes)) = some (some (.string ByteArray.empty), 1, 16) := by kernel_rfl
theorem jls : ∀ (p : Addr) (n c : Nat) (w : World), (binOp BinOp.eql 51 (.slice (some p) n c) (.slice none 0 0)).run Tryz.prog w = .ok (.bool false) w := by intro p n c w; kernel_rfl
theorem jjI : ∀ (n c : Nat) (w : World), (binOp BinOp.eql 51 (.slice none n c) (.slice none 0 0)).run Tryz.prog w = .ok (.bool true) w := by intro n c w; kernel_rfl
theorem jjl : Firm (fun (_ : Nat → Prop) (_ : World) (x : List UInt8) cs => TxtM x cs) := fun _ _ _ _ _ _ _ _ h => h
theorem jiI {Q : Nat → Prop} {w : World} {c : Nat} {l : List (List UInt8)} (h : TxtsM Q w (.slice none l.length c) l) : l = [] := by
  cases l with
  | nil => rfl
  | cons x r =>
    obtain ⟨_, _, he, _⟩ := jkD h (i := 0) rfl; cases he
set_option maxHeartbeats 1000000 in
set_option maxRecDepth 100000 in
theorem jaE (l : List (List UInt8)) (a : Option Addr) (c : Nat) (w : World) (h : TxtsM anyB w (.slice a l.length c) l) (hl : l.length ≤ 1000) :
    Calls Tryz.prog 75 #[.slice a l.length c] w fun e w' => ∃ a' c', e = .returned (.slice a' l.length c') ∧ TxtsM (newB w.heap.size) w' (.slice a' l.length c') l ∧ Below w.heap.size w w' := by
  have heq := jls; have heq0 := jjI; cases a with
  | none =>
    obtain rfl := jiI h; go_enter Tryz.func75, Tryz.ntmps75; go_wp2; go_ret; exact ⟨_, _, rfl, jj _ _ _ _ _ _, Below.refl _ _⟩
  | some p =>
    obtain ⟨W1, hW1⟩ : ∃ W1, W1 = w.alloc (.cells #[] 9) := ⟨_, rfl⟩; have HWE := hid hW1; have HB1 := hid (show Below w.heap.size w W1 by rw [hW1]; exact (Below.refl _ _).alloc (Nat.le_refl _) _); have hs1 : W1.heap.size = w.heap.size + 1 := by rw [hW1]; simp
    have HO1 := hid (show W1.ownsRow w.heap.size 9 1 (.slice (some ⟨w.heap.size, 0, none⟩) 0 0) 0 [] from ⟨rfl, .inr ⟨w.heap.size, 0, #[], rfl, Nat.le_refl _, by rw [hW1]; exact heap_alloc_new w _, Nat.le_refl _, by unfold maxLen; omega, rfl, rfl⟩⟩); have HR1 := hid (TxtsM.next h HB1.out); clear h hW1
    by_cases h0 : l = []
    · subst h0; go_enter Tryz.func75, Tryz.ntmps75; go_wp2; rw [← HWE.out]; go_ret; exact ⟨_, _, rfl, jj _ _ _ _ _ _, HB1.out⟩
    · have hpos : 0 < l.length := List.length_pos_iff.2 h0; obtain ⟨b, o, rfl⟩ : ∃ b o, p = ⟨b, o, none⟩ := by
        cases l with
        | nil => exact absurd rfl h0
        | cons x r =>
          obtain ⟨b, o, he, _⟩ := jkD HR1.out (i := 0) rfl; exact ⟨b, o, Option.some.inj he⟩
      obtain ⟨i0, hi, hz0, hz1, hz2⟩ := info_parts jli; obtain ⟨css, n1, n2, n3, n4⟩ := jdL HR1.out l.length (Nat.le_refl _); have HN3 := hid n3; have HN4 := hid (show ∀ (j : Nat) u, css.flatten[j]? = some u → W1.cell? ((⟨b, o, none⟩ : Addr).add j) = some u from fun j u hj => by rw [Addr.add_lit]; exact n4 j u hj); have hfl : css.flatten.length = l.length * 1 := by rw [jaI n2, n1]
      have HONE := hid (show ∀ u ∈ css.flatten, u.oneCell' = true from fun u hu => by
        obtain ⟨cs, hcs, hu2⟩ := List.mem_flatten.1 hu; obtain ⟨q, hq, hqe⟩ := List.getElem_of_mem hcs; have hq2 : css[q]? = some cs := by rw [List.getElem?_eq_getElem hq, hqe]
        have hP : cs = _ := n3 q _ cs (List.getElem?_eq_getElem (by omega)) hq2; rw [hP] at hu2
        simp at hu2
        rw [hu2]; rfl)
      clear n3 n4 h0; go_enter Tryz.func75, Tryz.ntmps75
      go_wp2_with (at_builtin; refine wpList_append_lies _ rfl _ _ 51 rfl w.heap.size 9 i0 _ 1 16 Tryz.underlying51 hi hz0 hz1 hz2 rfl (by decide) (.slice (some ⟨w.heap.size, 0, none⟩) 0 0) 0 [] rfl ?k1 ⟨b, o, none⟩ l.length c css.flatten rfl hfl ?k2 HONE.out hpos ?k3 ?k4 ?k5 _ rfl ?_)
      case k1 => rw [← HWE.out]; exact HO1.out
      case k2 => rw [← HWE.out]; exact HN4.out
      case k3 => unfold maxLen; omega
      case k4 => omega
      case k5 => rw [← HWE.out]; omega
      rw [← HWE.out]; intro g cap w3 hown3 hgrow hat hlt3; have HO3 := hid (show TxtsM (newB w.heap.size) w3 (.slice (some ⟨g, 0, none⟩) l.length cap) l from OwnRow.rowM jjl ⟨css, by simpa using hown3, n1, n2, HN3.out⟩ (by unfold maxLen; omega)); have HB3 := hid (show Below w.heap.size w w3 from HB1.out.grown hgrow (by omega) (fun j hj => by have h1 : w.heap.size = j := Option.some.inj hj; omega)); clear hown3 hgrow hat; go_wp2; go_ret; exact ⟨_, _, rfl, HO3.out, HB3.out⟩
def CpyP (t : Tst) (w : World) (e : Ending) (w' : World) : Prop := ∃ a1 c1 a2 c2, e = .returned (.agg #[.int .i64 t.kind, .int .i64 t.mat, .int .i64 t.part, .slice a1 t.names.length c1, .slice a2 t.keys.length c2, .bool t.over, .int .i64 t.limit, .slice none 0 0]) ∧ TxtsM (newB w.heap.size) w' (.slice a1 t.names.length c1) t.names ∧ TxtsM (newB w.heap.size) w' (.slice a2 t.keys.length c2) t.keys ∧ Below w.heap.size w w'
theorem CpyP.mk {t : Tst} {w wc : World} {a1 a2 : Option Addr} {c1 c2 : Nat} (hN : TxtsM (fun p => w.heap.size + 2 ≤ p) wc (.slice a1 t.names.length c1) t.names) (hK : TxtsM (fun p => w.heap.size + 2 ≤ p) wc (.slice a2 t.keys.length c2) t.keys) (hB : Below w.heap.size w wc) :
    CpyP t w (.returned (.agg #[.int .i64 t.kind, .int .i64 t.mat, .int .i64 t.part, .slice a1 t.names.length c1, .slice a2 t.keys.length c2, .bool t.over, .int .i64 t.limit, .slice none 0 0])) (jM wc (w.heap.size + 1) 0 [.int .i64 t.kind, .int .i64 t.mat, .int .i64 t.part, .slice a1 t.names.length c1, .slice a2 t.keys.length c2, .bool t.over, .int .i64 t.limit, .slice none 0 0]) := by
  have hk : Keeps (fun p => w.heap.size + 2 ≤ p) wc (jM wc (w.heap.size + 1) 0 [.int .i64 t.kind, .int .i64 t.mat, .int .i64 t.part, .slice a1 t.names.length c1, .slice a2 t.keys.length c2, .bool t.over, .int .i64 t.limit, .slice none 0 0]) := qa (b := w.heap.size + 1) (fun k (hk : w.heap.size + 2 ≤ k) => by omega) [.int .i64 t.kind, .int .i64 t.mat, .int .i64 t.part, .slice a1 t.names.length c1, .slice a2 t.keys.length c2, .bool t.over, .int .i64 t.limit, .slice none 0 0] 0 wc wc (Keeps.refl _ _); exact ⟨a1, c1, a2, c2, rfl, TxtsM.imp hN (fun p (hp : w.heap.size + 2 ≤ p) => show w.heap.size ≤ p by omega) hk, TxtsM.imp hK (fun p (hp : w.heap.size + 2 ≤ p) => show w.heap.size ≤ p by omega) hk, j8 (by omega) _ 0 _ w hB⟩
def CpyQ (t : Tst) (w wx : World) : Prop := ∃ a1 c1 a2 c2, wx.heap[w.heap.size]? = some (.cells #[.int .i64 t.kind, .int .i64 t.mat, .int .i64 t.part, .slice a1 t.names.length c1, .slice a2 t.keys.length c2, .bool t.over, .int .i64 t.limit, .slice none 0 0] 54) ∧ wx.heap[w.heap.size + 1]? = some (.cells #[.int .i64 0, .int .i64 0, .int .i64 0, .slice none 0 0, .slice none 0 0, .bool false, .int .i64 0, .slice none 0 0] 54) ∧ TxtsM (fun p => w.heap.size + 2 ≤ p) wx (.slice a1 t.names.length c1) t.names ∧ TxtsM (fun p => w.heap.size + 2 ≤ p) wx (.slice a2 t.keys.length c2) t.keys ∧ Below w.heap.size w wx
theorem CpyQ.mk {t : Tst} {w w3 : World} {an ak at' a1 a2 : Option Addr} {cn ck ct c1 c2 : Nat} (h0 : w3.heap[w.heap.size]? = some (.cells #[.int .i64 t.kind, .int .i64 t.mat, .int .i64 t.part, .slice an t.names.length cn, .slice ak t.keys.length ck, .bool t.over, .int .i64 t.limit, .slice at' t.tests.length ct] 54)) (h1 : w3.heap[w.heap.size + 1]? = some (.cells #[.int .i64 0, .int .i64 0, .int .i64 0, .slice none 0 0, .slice none 0 0, .bool false, .int .i64 0, .slice none 0 0] 54)) (hN : TxtsM (fun p => w.heap.size + 2 ≤ p) w3 (.slice a1 t.names.length c1) t.names) (hK : TxtsM (fun p => w.heap.size + 2 ≤ p) w3 (.slice a2 t.keys.length c2) t.keys) (hB : Below w.heap.size w w3) :
    CpyQ t w (((w3.setCell ⟨w.heap.size, 3, none⟩ (.slice a1 t.names.length c1)).setCell ⟨w.heap.size, 4, none⟩ (.slice a2 t.keys.length c2)).setCell ⟨w.heap.size, 7, none⟩ (.slice none 0 0)) := by
  have hk : Keeps (fun p => w.heap.size + 2 ≤ p) w3 (((w3.setCell ⟨w.heap.size, 3, none⟩ (.slice a1 t.names.length c1)).setCell ⟨w.heap.size, 4, none⟩ (.slice a2 t.keys.length c2)).setCell ⟨w.heap.size, 7, none⟩ (.slice none 0 0)) :=
    ((Keeps.set _ _ (fun p (hp : w.heap.size + 2 ≤ p) => by simp; omega)).trans (Keeps.set _ _ (fun p (hp : w.heap.size + 2 ≤ p) => by simp; omega))).trans (Keeps.set _ _ (fun p (hp : w.heap.size + 2 ≤ p) => by simp; omega))
  refine ⟨a1, c1, a2, c2, ?_, ?_, TxtsM.imp hN (fun _ h => h) hk, TxtsM.imp hK (fun _ h => h) hk, ((hB.setCell (Nat.le_refl _) _).setCell (Nat.le_refl _) _).setCell (Nat.le_refl _) _⟩
  · have := jcm (jcm (jcm h0 3 (.slice a1 t.names.length c1)) 4 (.slice a2 t.keys.length c2)) 7 (.slice none 0 0)
    simpa using this
  · rw [Below.heap_setCell _ _ _ _ (by simp), Below.heap_setCell _ _ _ _ (by simp), Below.heap_setCell _ _ _ _ (by simp)]; exact h1
set_option maxHeartbeats 1000000 in
set_option maxRecDepth 100000 in
theorem jfP (t : Tst) (an ak at' : Option Addr) (cn ck ct : Nat) (w : World) (hN : TxtsM anyB w (.slice an t.names.length cn) t.names) (hK : TxtsM anyB w (.slice ak t.keys.length ck) t.keys) (h1 : t.names.length ≤ 1000) (h2 : t.keys.length ≤ 1000) :
    Calls Tryz.prog 154 #[.agg #[.int .i64 t.kind, .int .i64 t.mat, .int .i64 t.part, .slice an t.names.length cn, .slice ak t.keys.length ck, .bool t.over, .int .i64 t.limit, .slice at' t.tests.length ct]] w (CpyP t w) := by
  obtain ⟨W1, hW1⟩ : ∃ W1, W1 = (w.alloc (.cells #[.int .i64 t.kind, .int .i64 t.mat, .int .i64 t.part, .slice an t.names.length cn, .slice ak t.keys.length ck, .bool t.over, .int .i64 t.limit, .slice at' t.tests.length ct] 54)).alloc (.cells #[.int .i64 0, .int .i64 0, .int .i64 0, .slice none 0 0, .slice none 0 0, .bool false, .int .i64 0, .slice none 0 0] 54) := ⟨_, rfl⟩; have HWE := hid hW1; have hal : Below w.heap.size w W1 := by rw [hW1]; exact ((Below.refl _ _).alloc (Nat.le_refl _) _).alloc (by simp) _
  have HB1 := hid hal; have HBX := hid (show W1.heap[w.heap.size]? = some (.cells #[.int .i64 t.kind, .int .i64 t.mat, .int .i64 t.part, .slice an t.names.length cn, .slice ak t.keys.length ck, .bool t.over, .int .i64 t.limit, .slice at' t.tests.length ct] 54) by rw [hW1]; exact jf _ (jy _ rfl)); have HBR := hid (show W1.heap[w.heap.size + 1]? = some (.cells #[.int .i64 0, .int .i64 0, .int .i64 0, .slice none 0 0, .slice none 0 0, .bool false, .int .i64 0, .slice none 0 0] 54) by rw [hW1]; exact jy _ (by simp)); have hs1 : W1.heap.size = w.heap.size + 2 := by rw [hW1]; simp
  have HN1 := hid (TxtsM.next hN hal); have HK1 := hid (TxtsM.next hK hal); have HCN := hid (jaE t.names an cn W1.drew HN1.out h1); obtain ⟨x0, x1, x2, x3, x4, x5, x6, x7, f0, f1, f2, f3, f4, f5, f6, f7⟩ := box8 HBX.out; clear hW1 hal hN hK; go_enter Tryz.func154, Tryz.ntmps154; go_upto_region 1 with fail
  rw [← HWE.out]
  go_cut [] (CpyQ t w)
  case first =>
    go_region_law
      (first
        | (go_simp
           go_at_call 75
           with_reducible refine HCK.out.mono ?_
           rintro e w3 ⟨a2, c2, rfl, hT3, hb3⟩; have HT3 := hid (show TxtsM (fun p => w.heap.size + 2 ≤ p) w3 (.slice a2 t.keys.length c2) t.keys from TxtsM.imp hT3 (fun p hp => Nat.le_trans hs2 hp) (Keeps.refl _ _)); have HT2b := hid (TxtsM.next HT2.out hb3); have HB3 := hid (HB2.out.trans (hb3.mono HB2.out.size)); have HX3 := hid (jL hb3 HX2.out); have HR3 := hid (jL hb3 HR2.out); clear x0 x1 x2 x3 x4 x5 x6 x7 f0 f1 f2 f3 f4 f5 f6 f7 hT3 hb3; obtain ⟨x0, x1, x2, x3, x4, x5, x6, x7, f0, f1, f2, f3, f4, f5, f6, f7⟩ := box8 HX3.out)
        | (go_simp
           go_at_call 75
           with_reducible refine HCN.out.mono ?_
           rintro e w2 ⟨a1, c1, rfl, hT2, hb2⟩; have hs2 : w.heap.size + 2 ≤ w2.heap.size := by have := hb2.size; simp at this; omega
           have HT2 := hid (show TxtsM (fun p => w.heap.size + 2 ≤ p) w2 (.slice a1 t.names.length c1) t.names from TxtsM.imp hT2 (fun p (hp : W1.drew.heap.size ≤ p) => by simp at hp; omega) (Keeps.refl _ _)); have HB2 := hid (show Below w.heap.size w w2 from HB1.out.drew.trans (hb2.mono HB1.out.drew.size)); have HX2 := hid (jL hb2 (show W1.drew.heap[w.heap.size]? = _ from HBX.out)); have HR2 := hid (jL hb2 (show W1.drew.heap[w.heap.size + 1]? = _ from HBR.out)); have HCK := hid (jaE t.keys ak ck w2 (TxtsM.next HK1.out (show Below W1.heap.size W1 w2 from (Below.refl _ _).drew.trans hb2)) h2); clear x0 x1 x2 x3 x4 x5 x6 x7 f0 f1 f2 f3 f4 f5 f6 f7 hT2 hb2; obtain ⟨x0, x1, x2, x3, x4, x5, x6, x7, f0, f1, f2, f3, f4, f5, f6, f7⟩ := box8 HX2.out))
    all_goals
      have HE := hid (CpyQ.mk HX3.out HR3.out HT2b.out HT3.out HB3.out); go_wp2_with fail
      go_meet
      exact HE.out
  case rest =>
    obtain ⟨a1, c1, a2, c2, hX, hR, hN, hK, hB⟩ := hcut; obtain ⟨x0, x1, x2, x3, x4, x5, x6, x7, f0, f1, f2, f3, f4, f5, f6, f7⟩ := box8 hX; obtain ⟨y0, y1, y2, y3, y4, y5, y6, y7, g0, g1, g2, g3, g4, g5, g6, g7⟩ := box8 hR; have HN := hid hN; have HK := hid hK; have HB := hid hB; clear hX hR hN hK hB; have HE := hid (CpyP.mk HN.out HK.out HB.out); go_wp2; refine bodyPost_ret (v := .agg #[.int .i64 t.kind, .int .i64 t.mat, .int .i64 t.part, .slice a1 t.names.length c1, .slice a2 t.keys.length c2, .bool t.over, .int .i64 t.limit, .slice none 0 0]) (by simp [results, Tryz.results154, go_sem, *]) rfl ?_; exact HE.out
end Go.Proofs.YtaapmpchcfcniaaGreatDoor
namespace Go.Proofs.YtaapmpchcfcniaaGreatDoor
open Go.RowKit Go.Proofs
theorem jly (Q : Nat → Prop) (w : World) (k d : Int) : OpM Q w ⟨k, d, zd, zY⟩ [.int .i64 k, .int .i64 d, .int .i64 0, .int .i64 0, .int .i64 0, .slice none 0 0, .slice none 0 0, .bool false, .int .i64 0, .slice none 0 0, .int .i64 0, .slice none 0 0, .int .i64 0, .int .i64 0, .int .i64 0, .slice none 0 0, .slice none 0 0, .bool false, .int .i64 0, .slice none 0 0, .slice none 0 0, .slice none 0 0] :=
  ⟨_, _, rfl, zS Q 0 w, _, _, _, _, _, _, rfl, jj _ _ _ _ _ _, zS Q 0 w, jj _ _ _ _ _ _, jj _ _ _ _ _ _⟩
theorem jdn {X : Nat → Prop} {w1 w2 : World} {b : Nat} {acc : List Opr} (h : WrC X w1 b acc) (hX : ∀ p, X p → p < w1.heap.size) (hb : Below w1.heap.size w1 w2) {p : Nat} (h1 : w1.heap.size ≤ p) (h2 : p < w2.heap.size) : handQ X w2 b p := by
  have hlt := h.lt; obtain ⟨a, k, e1, css, o1, _⟩ := h; refine ⟨⟨by omega, h2, fun e => ?_⟩, fun hx => by have := hX p hx; omega⟩; rw [zD (jL hb e1)] at e; have := (World.ownsRow.lt o1 p e.symm).2; omega
theorem jmx {X : Nat → Prop} {w1 w2 : World} {b : Nat} {acc : List Opr} (h : WrC X w1 b acc) (hX : ∀ p, X p → p < w1.heap.size) (hb : Below w1.heap.size w1 w2) (t : Tst) {a1 a2 : Option Addr} {c1 c2 : Nat} (hN : TxtsM (newB w1.heap.size) w2 (.slice a1 t.names.length c1) t.names) (hK : TxtsM (newB w1.heap.size) w2 (.slice a2 t.keys.length c2) t.keys) :
    OpM (handQ X w2 b) w2 (askO t) [.int .i64 1, .int .i64 0, .int .i64 t.kind, .int .i64 t.mat, .int .i64 t.part, .slice a1 t.names.length c1, .slice a2 t.keys.length c2, .bool t.over, .int .i64 t.limit, .slice none 0 0, .int .i64 0, .slice none 0 0, .int .i64 0, .int .i64 0, .int .i64 0, .slice none 0 0, .slice none 0 0, .bool false, .int .i64 0, .slice none 0 0, .slice none 0 0, .slice none 0 0] := by
  have hq : ∀ p, (newB w1.heap.size p ∧ p < w2.heap.size) → handQ X w2 b p := fun p hp => jdn h hX hb hp.1 hp.2
  refine ⟨[.int .i64 t.kind, .int .i64 t.mat, .int .i64 t.part, .slice a1 t.names.length c1, .slice a2 t.keys.length c2, .bool t.over, .int .i64 t.limit, .slice none 0 0], _, rfl, ?_, _, _, _, _, _, _, rfl, jj _ _ _ _ _ _, zS _ 0 w2, jj _ _ _ _ _ _, jj _ _ _ _ _ _⟩; exact ⟨_, _, _, rfl, TxtsM.imp (RowM.both hN fun _ _ h => h) hq (Keeps.refl _ _), TxtsM.imp (RowM.both hK fun _ _ h => h) hq (Keeps.refl _ _), jj _ _ _ _ _ _⟩
theorem WrR.after {X : Nat → Prop} {w w1 : World} {b : Nat} {acc : List Opr} {e : Ending} {w' : World} (h : WrR X w1 b acc e w') (hb : Below b w w1) (hf : FrC b w w1) : WrR X w b acc e w' := ⟨h.1, h.2.1, hb.trans h.2.2.1, hf.trans h.2.2.2⟩
def TstW (n : Nat) : Prop := ∀ (t : Tst) (an ak at' : Option Addr) (cn ck ct : Nat) (W0 : World) (X : Nat → Prop) (b : Nat) (acc : List Opr) (w : World), (∀ p, X p → p < w.heap.size) → W0.heap.size ≤ b → Below b W0 w → TstM anyB n W0 t [.int .i64 t.kind, .int .i64 t.mat, .int .i64 t.part, .slice an t.names.length cn, .slice ak t.keys.length ck, .bool t.over, .int .i64 t.limit, .slice at' t.tests.length ct] → FitT n t → acc.length + (jD n t).length ≤ 1000 → WrC X w b acc →
    Calls Tryz.prog 117 #[.pointer (some ⟨b, 0, none⟩), .agg #[.int .i64 t.kind, .int .i64 t.mat, .int .i64 t.part, .slice an t.names.length cn, .slice ak t.keys.length ck, .bool t.over, .int .i64 t.limit, .slice at' t.tests.length ct]] w (WrR X w b (acc ++ oTst n t acc.length))
def jkQ (n : Nat) : Prop := ∀ (l : List Tst) (a : Option Addr) (c : Nat) (k : Int) (W0 : World) (X : Nat → Prop) (b : Nat) (acc : List Opr) (w : World), (∀ p, X p → p < w.heap.size) → (k = 3 ∨ k = 4) → l ≠ [] → l.length ≤ 3 → W0.heap.size ≤ b → Below b W0 w → TstsM anyB n W0 (.slice a l.length c) l → (∀ t ∈ l, FitT n t) → acc.length + (sepT (jD n) l).length ≤ 1000 → WrC X w b acc →
    Calls Tryz.prog 153 #[.pointer (some ⟨b, 0, none⟩), .slice a l.length c, .int .i64 k] w (WrR X w b (acc ++ jaO (oTst n) k l acc.length))
theorem jeQ {n : Nat} {t : Tst} (h : FitT (n + 1) t) : t.names.length ≤ 2 ∧ t.keys.length ≤ 2 ∧ t.tests.length ≤ 3 ∧ zW t = true := by
  have h1 := h.1; unfold fitH at h1; simp only [Bool.and_eq_true, decide_eq_true_eq] at h1; exact ⟨h1.1.1.2, h1.1.2, h1.2, h1.1.1.1.2⟩
theorem jeS {t : Tst} (h : zW t = true) (hk : t.kind = 3) : t.tests.length = 1 := by
  unfold zW at h; rw [if_pos hk] at h; simp only [Bool.and_eq_true, decide_eq_true_eq] at h; exact h.1
theorem jbg {t : Tst} (h : zW t = true) (hk : t.kind = 4 ∨ t.kind = 5) : t.tests ≠ [] := by
  unfold zW at h; rw [if_neg (by omega), if_pos hk] at h; simp only [Bool.and_eq_true, decide_eq_true_eq] at h; intro e; rw [e] at h
  simp at h
theorem jk {W0 w : World} {b : Nat} (hb : Below b W0 w) (hB : W0.heap.size ≤ b) {p : Addr} {v : Value} (h : W0.cell? p = some v) : w.cell? p = some v := (hb.cell (Nat.lt_of_lt_of_le (World.block_lt_of_cell? W0 _ h) hB)).trans h
theorem jiH {n : Nat} {W0 w : World} {b : Nat} (hb : Below b W0 w) (hB : W0.heap.size ≤ b) {a : Option Addr} {c : Nat} {l : List Tst} (h : TstsM anyB n W0 (.slice a l.length c) l) {i : Nat} {x : Tst} (hx : l[i]? = some x) :
    ∃ (b' o : Nat) (an ak at' : Option Addr) (cn ck ct : Nat), a = some ⟨b', o, none⟩ ∧ b' < W0.heap.size ∧ TstM anyB n W0 x [.int .i64 x.kind, .int .i64 x.mat, .int .i64 x.part, .slice an x.names.length cn, .slice ak x.keys.length ck, .bool x.over, .int .i64 x.limit, .slice at' x.tests.length ct] ∧ w.cell? ⟨b', o + i * 8, none⟩ = some (.int .i64 x.kind) ∧ w.cell? ⟨b', o + i * 8 + 1, none⟩ = some (.int .i64 x.mat) ∧ w.cell? ⟨b', o + i * 8 + 2, none⟩ = some (.int .i64 x.part) ∧ w.cell? ⟨b', o + i * 8 + 3, none⟩ = some (.slice an x.names.length cn) ∧ w.cell? ⟨b', o + i * 8 + 4, none⟩ = some (.slice ak x.keys.length ck) ∧ w.cell? ⟨b', o + i * 8 + 5, none⟩ = some (.bool x.over) ∧ w.cell? ⟨b', o + i * 8 + 6, none⟩ = some (.int .i64 x.limit) ∧ w.cell? ⟨b', o + i * 8 + 7, none⟩ = some (.slice at' x.tests.length ct) := by
  obtain ⟨a', c', hv, _, hr⟩ := h; simp only [Value.slice.injEq, true_and] at hv; obtain ⟨rfl, rfl⟩ := hv; obtain ⟨b', o, cs, ha, hlt, _, _, hc, hT⟩ := hr i x hx; obtain ⟨an, cn, ak, ck, at', ct, rfl⟩ : ∃ an cn ak ck at' ct, cs = [.int .i64 x.kind, .int .i64 x.mat, .int .i64 x.part, .slice an x.names.length cn, .slice ak x.keys.length ck, .bool x.over, .int .i64 x.limit, .slice at' x.tests.length ct] := by
    obtain ⟨an, cn, ak, ck, at', ct, _, _, e, _⟩ := jO hT; exact ⟨an, cn, ak, ck, at', ct, e⟩
  exact ⟨b', o, an, ak, at', cn, ck, ct, ha, hlt, hT, jk hb hB (hc 0 _ rfl), jk hb hB (hc 1 _ rfl), jk hb hB (hc 2 _ rfl), jk hb hB (hc 3 _ rfl), jk hb hB (hc 4 _ rfl), jk hb hB (hc 5 _ rfl), jk hb hB (hc 6 _ rfl), jk hb hB (hc 7 _ rfl)⟩
theorem jbb (X : Nat → Prop) (b : Nat) (acc : List Opr) (k : Int) (w : World) (h : WrC X w b acc) (hl : acc.length ≤ 1000) :
    Calls Tryz.prog 74 #[.pointer (some ⟨b, 0, none⟩), .agg #[.int .i64 k, .int .i64 0, .int .i64 0, .int .i64 0, .int .i64 0, .slice none 0 0, .slice none 0 0, .bool false, .int .i64 0, .slice none 0 0, .int .i64 0, .slice none 0 0, .int .i64 0, .int .i64 0, .int .i64 0, .slice none 0 0, .slice none 0 0, .bool false, .int .i64 0, .slice none 0 0, .slice none 0 0, .slice none 0 0]] w fun e w' => e = .returned (.int .i64 (acc.length : Int)) ∧ WrC X w' b (acc ++ [⟨k, 0, zd, zY⟩]) ∧ Below b w w' ∧ FrC b w w' :=
  jcH X b acc ⟨k, 0, zd, zY⟩ (.int .i64 k) (.int .i64 0) (.int .i64 0) (.int .i64 0) (.int .i64 0) (.slice none 0 0) (.slice none 0 0) (.bool false) (.int .i64 0) (.slice none 0 0) (.int .i64 0) (.slice none 0 0) (.int .i64 0) (.int .i64 0) (.int .i64 0) (.slice none 0 0) (.slice none 0 0) (.bool false) (.int .i64 0) (.slice none 0 0) (.slice none 0 0) (.slice none 0 0) w h hl (jly _ w k 0)
set_option maxHeartbeats 1000000 in
set_option maxRecDepth 100000 in
theorem jiD (n : Nat) (hT : TstW n) (hTs : jkQ n) : TstW (n + 1) := by
  intro t an ak at' cn ck ct W0 X b acc w hX hB hb hM hF hlen hW; obtain ⟨vn, vk, vt, e8, hN, hK, hR⟩ := hM; simp only [List.cons.injEq, true_and, and_true] at e8; obtain ⟨rfl, rfl, rfl⟩ := e8; obtain ⟨hn2, hk2, ht3, hfit⟩ := jeQ hF; have hlt := hW.lt; obtain ⟨W1, hW1⟩ : ∃ W1, W1 = w.alloc (.cells #[.int .i64 t.kind, .int .i64 t.mat, .int .i64 t.part, .slice an t.names.length cn, .slice ak t.keys.length ck, .bool t.over, .int .i64 t.limit, .slice at' t.tests.length ct] 54) := ⟨_, rfl⟩; have HWE := hid hW1; have hal : Below w.heap.size w W1 := by rw [hW1]; exact (Below.refl _ _).alloc (Nat.le_refl _) _
  have HC1 := hid (hW.grow hal); have HX1 := hid (show ∀ p, X p → p < W1.heap.size from fun p hp => Nat.lt_of_lt_of_le (hX p hp) hal.size); have HB1 := hid (show Below b w W1 from hal.mono (by omega)); have HF1 := hid (FrC.below hlt hal); have HB01 := hid (hb.trans HB1.out); have HBX := hid (show W1.heap[w.heap.size]? = some (.cells #[.int .i64 t.kind, .int .i64 t.mat, .int .i64 t.part, .slice an t.names.length cn, .slice ak t.keys.length ck, .bool t.over, .int .i64 t.limit, .slice at' t.tests.length ct] 54) by rw [hW1]; exact heap_alloc_new w _); obtain ⟨x0, x1, x2, x3, x4, x5, x6, x7, _, _, _, _, _, _, _, _⟩ := box8 HBX.out; rw [hW1] at x0 x1 x2 x3 x4 x5 x6 x7; have HN := hid (TxtsM.next hN (HB01.out.mono hB)); have HK := hid (TxtsM.next hK (HB01.out.mono hB)); have HR := hid hR; have HFT := hid hF.2; have HL := hid hlen; clear hN hK hR hF hW hb hal hW1 hlen
  by_cases k3 : t.kind = 3
  · have c3 : (t.kind == 3) = true := by simp [k3]
    have h1 := jeS hfit k3; obtain ⟨x, hx⟩ : ∃ x, t.tests = [x] := List.length_eq_one_iff.1 h1; obtain ⟨b', o, an', ak', at2, cn', ck', ct', rfl, hb', hTx, y0, y1, y2, y3, y4, y5, y6, y7⟩ := jiH HB01.out hB HR.out (i := 0) (x := x) (by rw [hx]; rfl); rw [HWE.out] at y0 y1 y2 y3 y4 y5 y6 y7; have HE := hid (show oTst (n + 1) t acc.length = oTst n x acc.length ++ [jaa] by simp only [oTst]; rw [if_pos k3, hx]); have hl1 : (jD (n + 1) t).length = (jD n x).length + 1 := by simp only [jD]; rw [if_pos k3, hx]; simp
    have HLx := hid (show acc.length + (jD n x).length + 1 ≤ 1000 by have := HL.out; omega); have HTX := hid (hT x an' ak' at2 cn' ck' ct' W0 X b acc W1 HX1.out hB HB01.out hTx (HFT.out x (by rw [hx]; simp)) (by have := HLx.out; omega) HC1.out); have hi0 : (0 : Int) < (t.tests.length : Int) := by omega
    simp only [Nat.zero_mul, Nat.add_zero] at y0 y1 y2 y3 y4 y5 y6 y7; clear hTx h1 hl1 k3 hx; go_enter Tryz.func117, Tryz.ntmps117; go_wp2_with fail; rw [← HWE.out]; refine HTX.out.mono ?_; rintro e w2 ⟨⟨v, rfl⟩, hW2, hb2, hf2⟩; simp only; have HAD := hid (jbb X b (acc ++ oTst n x acc.length) 2 w2 hW2 (by have h1 := jc7 n x acc.length; have := HLx.out; simp only [List.length_append]; omega)); have HB2 := hid (HB1.out.trans hb2); have HF2 := hid (HF1.out.trans hf2); clear hW2 hb2 hf2 x0 x1 x2 x3 x4 x5 x6 x7 y0 y1 y2 y3 y4 y5 y6 y7; go_wp2_with fail; refine HAD.out.mono ?_; rintro e w3 ⟨rfl, hW3, hb3, hf3⟩; simp only; have HEND := hid (show WrR X w b (acc ++ oTst (n + 1) t acc.length) (.returned (.tuple #[])) w3 from ⟨⟨_, rfl⟩, by rw [HE.out, ← List.append_assoc]; exact hW3, HB2.out.trans hb3, HF2.out.trans hf3⟩); clear hW3 hb3 hf3; go_wp2; go_end0; exact HEND.out
  · have c3 : (t.kind == 3) = false := by simp [k3]
    by_cases k4 : t.kind = 4
    · have c4 : (t.kind == 4) = true := by simp [k4]
      have HE := hid (show oTst (n + 1) t acc.length = jaO (oTst n) 4 t.tests acc.length by simp only [oTst]; rw [if_neg k3, if_pos k4]); have hl1 : (sepT (jD n) t.tests).length ≤ (jD (n + 1) t).length := by simp only [jD]; rw [if_neg k3, if_pos (.inl k4)]; simp; omega
      have HTX := hid (hTs t.tests at' ct 4 W0 X b acc W1 HX1.out (.inr rfl) (jbg hfit (.inl k4)) ht3 hB HB01.out HR.out HFT.out (by have := HL.out; omega) HC1.out); clear hl1 k3 k4; go_enter Tryz.func117, Tryz.ntmps117; go_wp2_with fail; rw [← HWE.out]; refine HTX.out.mono ?_; intro e w2 hR2; have HEND := hid (show WrR X w b (acc ++ oTst (n + 1) t acc.length) e w2 by rw [HE.out]; exact hR2.after HB1.out HF1.out); obtain ⟨⟨v, rfl⟩, _, _, _⟩ := hR2; simp only; have HEND2 := hid (show WrR X w b (acc ++ oTst (n + 1) t acc.length) (.returned (.tuple #[])) w2 from ⟨⟨_, rfl⟩, HEND.out.2⟩); go_wp2; go_end0; exact HEND2.out
    · have c4 : (t.kind == 4) = false := by simp [k4]
      by_cases k5 : t.kind = 5
      · have c5 : (t.kind == 5) = true := by simp [k5]
        have HE := hid (show oTst (n + 1) t acc.length = jaO (oTst n) 3 t.tests acc.length by simp only [oTst]; rw [if_neg k3, if_neg k4, if_pos k5]); have hl1 : (sepT (jD n) t.tests).length ≤ (jD (n + 1) t).length := by simp only [jD]; rw [if_neg k3, if_pos (.inr k5)]; simp; omega
        have HTX := hid (hTs t.tests at' ct 3 W0 X b acc W1 HX1.out (.inl rfl) (jbg hfit (.inr k5)) ht3 hB HB01.out HR.out HFT.out (by have := HL.out; omega) HC1.out); clear hl1 k3 k4 k5; go_enter Tryz.func117, Tryz.ntmps117; go_wp2_with fail; rw [← HWE.out]; refine HTX.out.mono ?_; intro e w2 hR2; have HEND := hid (show WrR X w b (acc ++ oTst (n + 1) t acc.length) e w2 by rw [HE.out]; exact hR2.after HB1.out HF1.out); obtain ⟨⟨v, rfl⟩, _, _, _⟩ := hR2; simp only; have HEND2 := hid (show WrR X w b (acc ++ oTst (n + 1) t acc.length) (.returned (.tuple #[])) w2 from ⟨⟨_, rfl⟩, HEND.out.2⟩); go_wp2; go_end0; exact HEND2.out
      · have c5 : (t.kind == 5) = false := by simp [k5]
        have HE := hid (show oTst (n + 1) t acc.length = [askO t] by simp only [oTst]; rw [if_neg k3, if_neg k4, if_neg k5]); have HCP := hid (jfP t an ak at' cn ck ct W1 HN.out HK.out (by omega) (by omega)); have HL1 := hid (show acc.length ≤ 1000 by have := HL.out; omega); clear k3 k4 k5; go_enter Tryz.func117, Tryz.ntmps117; go_wp2_with fail; rw [← HWE.out]; refine HCP.out.mono ?_; rintro e w2 ⟨a1, c1, a2, c2, he, hN2, hK2, hb2⟩; rw [he]; simp only; have HAD := hid (jcH X b acc (askO t) (.int .i64 1) (.int .i64 0) (.int .i64 t.kind) (.int .i64 t.mat) (.int .i64 t.part) (.slice a1 t.names.length c1) (.slice a2 t.keys.length c2) (.bool t.over) (.int .i64 t.limit) (.slice none 0 0) (.int .i64 0) (.slice none 0 0) (.int .i64 0) (.int .i64 0) (.int .i64 0) (.slice none 0 0) (.slice none 0 0) (.bool false) (.int .i64 0) (.slice none 0 0) (.slice none 0 0) (.slice none 0 0) w2 (HC1.out.grow hb2) HL1.out (jmx HC1.out HX1.out hb2 t hN2 hK2)); have HB2 := hid (HB1.out.trans (hb2.mono (Nat.le_of_lt HC1.out.lt))); have HF2 := hid (HF1.out.trans (FrC.below HC1.out.lt hb2)); clear he hN2 hK2 hb2 x0 x1 x2 x3 x4 x5 x6 x7; go_wp2_with fail; refine HAD.out.mono ?_; rintro e w3 ⟨rfl, hW3, hb3, hf3⟩; simp only; have HEND := hid (show WrR X w b (acc ++ oTst (n + 1) t acc.length) (.returned (.tuple #[])) w3 from ⟨⟨_, rfl⟩, by rw [HE.out]; exact hW3, HB2.out.trans hb3, HF2.out.trans hf3⟩); clear hW3 hb3 hf3; go_wp2; go_end0; exact HEND.out
end Go.Proofs.YtaapmpchcfcniaaGreatDoor
