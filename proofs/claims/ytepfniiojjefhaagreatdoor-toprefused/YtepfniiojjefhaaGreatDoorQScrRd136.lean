/-
  What readScript and script.Parse do: the walks. A panic of the reader goes through the door, where it is recovered.
  Scripts in memory that are not deep: with less fuel.
  What rule.Read does: the walk.
  What is read of the scripts of the laws of the whole: plainly.
  What book.Fold does with no batches: the walk.
  What the ledger's settle does, and slices.Clone of states: the walks.
-/
import Derived.Test.YtepfniiojjefhaaGreatDoorQScrRd112
import Derived.Defers
import Derived.Recover
import Derived.Tactics
import Derived.Tactics2
import Derived.Laws.Pointers
import Derived.Test.YtepfniiojjefhaaGreatDoorQPure6
import Derived.Test.YtepfniiojjefhaaGreatDoorQTokStr27
import Derived.Test.YtepfniiojjefhaaGreatDoorRulCs
import Derived.Test.YtepfniiojjefhaaGreatDoorQScrCard9
import Derived.Test.YtepfniiojjefhaaGreatDoorQBoxKp6
import Derived.Test.YtepfniiojjefhaaGreatDoorRows
import Derived.OpenShut
import Derived.Below
import Derived.WalkKit
import Derived.Test.YtepfniiojjefhaaGreatDoorQScrMemX2
import Derived.Deep.RegionHeld3
import Derived.Deep.RegionLaw
import Derived.Deep.DeepCutAuto
import Derived.Lib.SliceRun
namespace Go.Proofs.YtepfniiojjefhaaGreatDoor
open Go.RowKit Go.Proofs

/-- A row that was made: it has room for what it holds, and where it holds nothing it is none. -/
def Roomy (a : Option Addr) (n c : Nat) : Prop := n ≤ c ∧ (n = 0 → a = none ∧ c = 0)
/-- What readScript does: it hands commands back, or it panics. -/
def Sc (w : World) (L : List Tok) (x : Rdg (List Cmd)) (e : Ending) (w' : World) : Prop :=
  match x with
  | .ok (l, _) => ∃ a c, e = .returned (.slice a l.length c) ∧ CmdsM (newB w.heap.size) (L.length + 3) w' (.slice a l.length c) l ∧ Below w.heap.size w w' ∧ Roomy a l.length c
  | .error m => e = .panicked (misPanic L m) ∧ Below w.heap.size w w'
theorem But.lowB {b : Nat} {w w' : World} (h : But b w w') (hb : b ≤ w.heap.size) : Below b w w' := ⟨h.os, h.tape, h.output, h.size, fun k hk => h.block k (by omega) (by omega)⟩

set_option maxHeartbeats 8000000 in
set_option maxRecDepth 100000 in
theorem rscript_any (A : Option Addr) (C : Nat) (L : List Tok) (w : World) (hL : ToksAt w A L) (hsm : L.length ≤ 400) (hw : WordsAt w) :
    Calls Tryz.prog 78 #[.slice A L.length C] w (Sc w L (scriptR L)) := by
  have hG := hw.pos
  obtain ⟨W0, hW0⟩ : ∃ W0, W0 = w.alloc (.cells #[.slice A L.length C, .int .i64 0] 200) := ⟨_, rfl⟩
  have hal : Below w.heap.size w W0 := by rw [hW0]; exact (Below.refl _ _).alloc (Nat.le_refl _) _
  have hbl : w.heap.size < W0.heap.size := by rw [hW0]; simp
  have HR0 := hid (show RdS W0 w.heap.size A C L L from ⟨by rw [hW0, heap_alloc_new]; simp, hL.below hal, fun i x hx q o ha => by
    obtain ⟨b, o', ha', hb, _⟩ := hL i x hx
    rw [ha] at ha'
    cases ha'
    exact hb, ⟨[], rfl⟩, hsm⟩)
  have HW := hid (hw.next hal)
  have HAL := hid hal
  have HWE := hid hW0
  have HIH := hid (rdcmd_any (L.length + 2)).1
  obtain ⟨i0, hi, hz0, hz1, hz2⟩ := info_parts infoCmd
  have HL := hid (show scriptR L = scriptF (cmdP (L.length + 2) true 0) L.length [] L from rfl)
  clear hL hw hW0 hal
  go_enter Tryz.func78, Tryz.ntmps78
  go_wp2
  rw [← HWE.out]
  go_loopw [4] (fun v wr => ∃ (acc : List Cmd) (q : List Tok) (a0 : Option Addr) (c0 m : Nat), v = .slice a0 acc.length c0 ∧ OwnCs W0.heap.size (L.length + 3) wr (.slice a0 acc.length c0) acc ∧ RdS wr w.heap.size A C L q ∧ q.length ≤ m ∧ q.length ≤ L.length ∧ acc.length + q.length ≤ 401 ∧
      Hid (scriptR L = scriptF (cmdP (L.length + 2) true 0) m acc q) ∧ But w.heap.size W0 wr ∧ Hid (Roomy a0 acc.length c0)) (fun _ wr => restS w.heap.size L.length wr)
  case atStart => exact ⟨[], L, none, 0, L.length, rfl, OwnRow.nil _ _ _ _ _, HR0.out, Nat.le_refl _, Nat.le_refl _, by simp; omega, HL, But.refl _ _, ⟨Nat.le_refl _, fun _ => ⟨rfl, rfl⟩⟩⟩
  case round =>
      obtain ⟨acc, q, a0, c0, m, rfl, hO, hRr, hqm, hqn, hacc, hN, hBr, HRY⟩ := hrel
      have HO := hid hO
      have HRr := hid hRr
      have HBr := hid hBr
      have HM := hid (restS_is hRr)
      have hszr := hBr.size
      clear hO hRr hBr
      go_wp2_with fail
      refine (rended_any w.heap.size A C L q wr HRr.out).mono ?_
      rintro e w3 ⟨rfl, hb3⟩
      have HR3 := hid (HRr.out.next hb3)
      have HB3 := hid (HBr.out.trans (But.of hb3))
      have HO3 := hid (HO.out.keep (firm_cmd (L.length + 3)) (But.of hb3) hbl)
      have HW3 := hid (HW.out.but HB3.out hG)
      clear hb3
      cases q with
      | nil =>
        have HF := hid (show scriptR L = .ok (acc, []) by rw [hN.out]; cases m <;> rfl)
        have HV := hid (show CmdsM (newB w.heap.size) (L.length + 3) w3 (.slice a0 acc.length c0) acc from by
          have := HO3.out.rowM (firm_cmd (L.length + 3)) (by unfold maxLen; omega)
          have hup : ∀ k, newB' W0.heap.size k → newB w.heap.size k := fun k hk => by have : W0.heap.size ≤ k := hk; show w.heap.size ≤ k; omega
          exact RowM.imp this hup (Keeps.refl _ _) (fun _ _ h => CmdM.imp hup (Keeps.refl _ _) _ _ _ h))
        simp only [List.isEmpty]
        go_wp2
        go_ret
        rw [HF.out]
        exact ⟨_, _, rfl, HV.out, HAL.out.trans (HB3.out.lowB (Nat.le_of_lt hbl)), HRY.out⟩
      | cons t q =>
          obtain ⟨m, rfl⟩ : ∃ m', m = m' + 1 := ⟨m - 1, by simp at hqm; omega⟩
          have HE := hid (show scriptR L = thenR (cmdP (L.length + 2) true 0 (t :: q)) fun c q => scriptF (cmdP (L.length + 2) true 0) m (acc ++ [c]) q by rw [hN.out, scriptF_go])
          simp only [List.isEmpty]
          go_wp2_with fail
          refine (HIH.out 0 w.heap.size A C L (t :: q) w3 HR3.out HW3.out hG (by omega) (by omega)).mono ?_
          cases ht : cmdP (L.length + 2) true 0 (t :: q) with
          | error mm =>
            have HF := hid (show scriptR L = .error mm by rw [HE.out, ht]; rfl)
            clear ht
            rintro e w4 ⟨rfl, hB4⟩
            have HB4 := hid (HB3.out.trans hB4)
            clear hB4
            go_wp2
            rw [HF.out]
            exact ⟨rfl, rfl, HAL.out.trans (HB4.out.lowB (Nat.le_of_lt hbl))⟩
          | ok y =>
            obtain ⟨x2, q2⟩ := y
            have hq2 := cmdP_len _ _ _ _ _ _ ht
            have HF := hid (show scriptR L = scriptF (cmdP (L.length + 2) true 0) m (acc ++ [x2]) q2 by rw [HE.out, ht]; rfl)
            clear ht
            rintro e w4 ⟨v, rfl, ⟨cs2, rfl, hT4⟩, hR4, hB4⟩
            obtain ⟨ax, cx, an, cn, ak, ck, at', ct, aa, ca, ae, ce, m02, _, rfl, _⟩ := cmd_form hT4
            have HR4 := hid hR4
            have HB4 := hid (HB3.out.trans hB4)
            obtain ⟨css, h1, h2, h3, h4⟩ := HO3.out.keep (firm_cmd (L.length + 3)) hB4 hbl
            have hrow3 : ∀ k, (Value.slice a0 acc.length c0).ownBlock = some k → k < w3.heap.size := fun k hk => by
              obtain ⟨_, g1, _⟩ := HO3.out
              exact (World.ownsRow.lt g1 k hk).2
            have hsz4 := HB4.out.size
            have hsz34 := hB4.size
            have hsz3 := HB3.out.size
            have HX := hid (show CmdM (rowQ W0.heap.size w4 (.slice a0 acc.length c0)) (L.length + 3) w4 x2 [.int .i64 x2.kind, .slice ax x2.texts.length cx, .int .i64 x2.test.kind, .int .i64 x2.test.mat, .int .i64 x2.test.part, .slice an x2.test.names.length cn, .slice ak x2.test.keys.length ck, .bool x2.test.over, .int .i64 x2.test.limit, .slice at' x2.test.tests.length ct, .slice aa x2.thn.length ca, .slice ae x2.els.length ce] from CmdM.imp (fun k hk => by
              have e1 : w3.heap.size ≤ k := hk.1
              have e2 : k < w4.heap.size := hk.2
              exact ⟨by omega, e2, fun e => by have := hrow3 k e.symm; omega⟩) (Keeps.refl _ _) _ _ _ (CmdM.both _ _ _ hT4))
            have hlen2 := cmd_len hT4
            have hone2 := cmd_one hT4
            have H2 := hid h2
            have H3 := hid h3
            have H4 := hid h4
            clear hR4 hB4 hT4 h2 h3 h4
            go_wp2_with (at_builtin; refine wpList_append_lies _ rfl _ _ 90 rfl W0.heap.size 205 i0 _ 12 192 Tryz.underlying90 hi hz0 hz1 hz2 rfl (by decide) (.slice a0 acc.length c0) acc.length css.flatten rfl (World.ownsRow.alloc h1 _) ⟨w4.heap.size, 0, none⟩ 1 1 [.int .i64 x2.kind, .slice ax x2.texts.length cx, .int .i64 x2.test.kind, .int .i64 x2.test.mat, .int .i64 x2.test.part, .slice an x2.test.names.length cn, .slice ak x2.test.keys.length ck, .bool x2.test.over, .int .i64 x2.test.limit, .slice at' x2.test.tests.length ct, .slice aa x2.thn.length ca, .slice ae x2.els.length ce] rfl rfl (eight _ _ _) hone2 (by omega) ?c3 ?c4 ?c5 _ rfl ?_)
            case c3 => unfold maxLen; omega
            case c4 => omega
            case c5 => simp; omega
            intro g cap w5 hown' hgrow hat hlt5
            have hgal : w4.grownBy w5 (Value.slice a0 acc.length c0).ownBlock := ⟨hgrow.os, hgrow.tape, hgrow.output, by have := hgrow.size; simp at this; omega, fun k hk hn => (hgrow.block k (by simp; omega) hn).trans (by
              show (w4.heap.push _)[k]? = _
              rw [Array.getElem?_push_lt hk, Array.getElem?_eq_getElem hk])⟩
            have HO5 := hid (show OwnCs W0.heap.size (L.length + 3) w5 (.slice (some ⟨g, 0, none⟩) (acc.length + 1) cap) (acc ++ [x2]) from
              OwnRow.more (firm_cmd (L.length + 3)) (v := .slice a0 acc.length c0) (H := w4.heap.size + 1) H2.out H3.out H4.out HX.out rfl hown' hgal (by
                rcases hat with e | e
                · exact .inl e.symm
                · exact .inr (by rw [e]; simp [Value.ownBlock])) (by omega))
            have hBb : Below W0.heap.size w4 w5 := ((Below.refl _ _).alloc hsz4 _).grown hgrow (by simp; omega) (fun j hj => (World.ownsRow.lt h1 j hj).1)
            have HR5 := hid (HR4.out.under hBb hbl)
            have HB5 := hid (HB4.out.low hBb)
            have HD := hid (show restS w.heap.size L.length w5 < restS w.heap.size L.length wr by rw [restS_is HR5.out, HM.out]; simp at hq2 ⊢; omega)
            have HRZ := hid (show Roomy (some ⟨g, 0, none⟩) (acc ++ [x2]).length cap from ⟨by
              rw [List.length_append]
              rcases hown'.2 with ⟨e, _⟩ | ⟨_, _, _, e, _, _, e2, _⟩
              · cases e
              · simp only [Value.slice.injEq] at e; simp; omega, fun h => by simp at h⟩)
            clear hown' hgrow hBb h1 hgal hat
            go_wp2
            exact ⟨⟨acc ++ [x2], q2, some ⟨g, 0, none⟩, cap, m, by first | rfl | simp, by simpa using HO5.out, HR5.out, by simp at hq2 hqm; omega, by simp at hq2 hqn; omega, by simp at hq2 hacc ⊢; omega, HF, HB5.out, HRZ⟩, HD.out⟩

theorem pcatch_idle (p q s : Addr) (w : World) :
    CallsD Tryz.prog 77 #[.pointer (some p), .pointer (some q), .pointer (some s)] .returning w fun e u' w' => e = .returned (.tuple #[]) ∧ u' = .returning ∧ w' = w := by
  refine callsD_of_wpS Tryz.func77 rfl fun c₀ cs hu => ?_
  have hnil : ∀ w : World, (binOp BinOp.neq 20 .nilIface .nilIface).run Tryz.prog w = .ok (.bool false) w := fun _ => by kernel_rfl
  apply wpS_seq
  apply wpS_region
  simp [wpOpsS, go_sem, recoverD, hu, Tryz.ntmps77, Exit.thenS]
  apply wpS_seq
  apply wpS_region
  simp [wpOpsS, go_sem, Exit.thenS, hnil]
  refine wpS_cond (t := false) (by simp [Act.eval, Array.replicate]) ?_
  simp only [Bool.false_eq_true, if_false]
  refine wpS_of_wp (wp_skip ?_)
  cases c₀
  simp_all [bodyPostS, results, Tryz.results77]

set_option maxHeartbeats 4000000 in
theorem pcatch_mis (b : Nat) (v : Value) (x y : Int) (pl : Nat) (er : Int) (w : World) (hp : w.cell? ⟨b, 0, none⟩ = some v) (hpf : w.frozen? ⟨b, 0, none⟩ = false) (hq : w.cell? ⟨b + 1, 0, none⟩ = some (.int .i64 x)) (hqf : w.frozen? ⟨b + 1, 0, none⟩ = false) (hs : w.cell? ⟨b + 1 + 1, 0, none⟩ = some (.int .i64 y)) (hsf : w.frozen? ⟨b + 1 + 1, 0, none⟩ = false) :
    CallsD Tryz.prog 77 #[.pointer (some ⟨b, 0, none⟩), .pointer (some ⟨b + 1, 0, none⟩), .pointer (some ⟨b + 1 + 1, 0, none⟩)] (.panicking [{ v := .iface 154 (misV pl er), recovered := false }]) w fun e u' w' =>
      e = .returned (.tuple #[]) ∧ u' = .panicking [{ v := .iface 154 (misV pl er), recovered := true }] ∧ w'.cell? ⟨b, 0, none⟩ = some (.slice none 0 0) ∧ w'.cell? ⟨b + 1, 0, none⟩ = some (.int .i64 pl) ∧ w'.cell? ⟨b + 1 + 1, 0, none⟩ = some (.int .i64 er) ∧ Below b w w' := by
  refine callsD_of_wpS Tryz.func77 rfl fun c₀ cs hu => ?_
  have hnil : ∀ w : World, (binOp BinOp.neq 20 (.iface 154 (misV pl er)) .nilIface).run Tryz.prog w = .ok (.bool true) w := fun _ => by kernel_rfl
  apply wpS_seq
  apply wpS_region
  simp [wpOpsS, go_sem, recoverD, hu, Tryz.ntmps77, Exit.thenS]
  apply wpS_seq
  apply wpS_region
  simp [wpOpsS, go_sem, Exit.thenS, hnil]
  refine wpS_cond (t := true) (by simp [Act.eval, Array.replicate]) ?_
  simp only [if_true]
  refine wpS_of_wp ?_
  have hass : ∀ w : World, (Instr.typeAssert (.iface 154 (misV pl er)) 20 154 false).run Tryz.prog w = .ok (.agg #[.int .i64 pl, .int .i64 er]) w := fun _ => by kernel_rfl
  have hl : b + 1 + 1 < w.heap.size := World.block_lt_of_cell? w _ hs
  have hl0 : b < w.heap.size := by omega
  have hl1 : b + 1 < w.heap.size := by omega
  have hn0 : b ≠ w.heap.size := by omega
  have hn1 : b + 1 ≠ w.heap.size := by omega
  have hn2 : b + 1 + 1 ≠ w.heap.size := by omega
  show Code.wp _ _ _ { tmps := #[.pointer (some ⟨b, 0, none⟩), .pointer (some ⟨b + 1, 0, none⟩), .pointer (some ⟨b + 1 + 1, 0, none⟩), .iface 154 (misV pl er), undef, .iface 154 (misV pl er), .iface 154 (misV pl er), .bool true, undef, undef, undef, undef, undef, undef], defers := [] } w
  clear hnil
  go_wp2
  go_region
  all_goals go_wp2
  have hp0 : (w.setCell ⟨b, 0, none⟩ (.slice none 0 0)).cell? ⟨b, 0, none⟩ = some (.slice none 0 0) := World.cell?_setCell_same' _ _ _ (by rw [hp]; rfl)
  have hq0 : ((w.setCell ⟨b, 0, none⟩ (.slice none 0 0)).setCell ⟨b + 1, 0, none⟩ (.int .i64 pl)).cell? ⟨b + 1, 0, none⟩ = some (.int .i64 pl) := World.cell?_setCell_same' _ _ _ (by rw [World.cell?_setCell_other _ _ _ _ (by simp), hq]; rfl)
  have hs0 : (((w.setCell ⟨b, 0, none⟩ (.slice none 0 0)).setCell ⟨b + 1, 0, none⟩ (.int .i64 pl)).setCell ⟨b + 1 + 1, 0, none⟩ (.int .i64 er)).cell? ⟨b + 1 + 1, 0, none⟩ = some (.int .i64 er) := World.cell?_setCell_same' _ _ _ (by rw [World.cell?_setCell_other _ _ _ _ (by simp), World.cell?_setCell_other _ _ _ _ (by simp), hs]; rfl)
  have hq1 : (((w.setCell ⟨b, 0, none⟩ (.slice none 0 0)).setCell ⟨b + 1, 0, none⟩ (.int .i64 pl)).setCell ⟨b + 1 + 1, 0, none⟩ (.int .i64 er)).cell? ⟨b + 1, 0, none⟩ = some (.int .i64 pl) := (World.cell?_setCell_other _ _ _ _ (by simp)).trans hq0
  have hp1 : (((w.setCell ⟨b, 0, none⟩ (.slice none 0 0)).setCell ⟨b + 1, 0, none⟩ (.int .i64 pl)).setCell ⟨b + 1 + 1, 0, none⟩ (.int .i64 er)).cell? ⟨b, 0, none⟩ = some (.slice none 0 0) := ((World.cell?_setCell_other _ _ _ _ (by simp)).trans (World.cell?_setCell_other _ _ _ _ (by simp))).trans hp0
  have hup : Below b w ((((w.setCell ⟨b, 0, none⟩ (.slice none 0 0)).setCell ⟨b + 1, 0, none⟩ (.int .i64 pl)).setCell ⟨b + 1 + 1, 0, none⟩ (.int .i64 er)).alloc (.cells #[.int .i64 pl, .int .i64 er] 154)).drew :=
    (((((Below.refl b w).setCell (p := ⟨b, 0, none⟩) (Nat.le_refl b) _).setCell (p := ⟨b + 1, 0, none⟩) (show b ≤ b + 1 by omega) _).setCell (p := ⟨b + 1 + 1, 0, none⟩) (show b ≤ b + 1 + 1 by omega) _).alloc (by simp [World.setCell]; omega) _).drew
  have hal : ∀ W : World, Below W.heap.size W ((W.alloc (.cells #[.int .i64 pl, .int .i64 er] 154)).drew) := fun W => ((Below.refl _ _).alloc (Nat.le_refl _) _).drew
  exact ⟨rfl, _, rfl, .tuple #[], by simp [results, Tryz.results77], rfl, rfl, wcell_next hp1 (hal _), wcell_next hq1 (hal _), wcell_next hs0 (hal _), hup⟩

theorem three (w : World) (o0 o1 o2 : Obj) : (((w.alloc o0).alloc o1).alloc o2).heap[w.heap.size]? = some o0 ∧ (((w.alloc o0).alloc o1).alloc o2).heap[w.heap.size + 1]? = some o1 ∧ (((w.alloc o0).alloc o1).alloc o2).heap[w.heap.size + 1 + 1]? = some o2 := by
  have h1 : (w.alloc o0).heap.size = w.heap.size + 1 := by simp
  have h2 : ((w.alloc o0).alloc o1).heap.size = w.heap.size + 1 + 1 := by simp
  refine ⟨?_, ?_, ?_⟩
  · rw [heap_low _ _ (by omega), heap_low _ _ (by omega)]; exact heap_alloc_new w o0
  · rw [heap_low _ _ (by omega), ← h1]; exact heap_alloc_new _ o1
  · rw [← h2]; exact heap_alloc_new _ o2
theorem stored3 {W : World} {b : Nat} {u0 u1 u2 : Value} (v0 v1 v2 : Value) (h0 : W.cell? ⟨b, 0, none⟩ = some u0) (h1 : W.cell? ⟨b + 1, 0, none⟩ = some u1) (h2 : W.cell? ⟨b + 1 + 1, 0, none⟩ = some u2) :
    (((W.setCell ⟨b, 0, none⟩ v0).setCell ⟨b + 1, 0, none⟩ v1).setCell ⟨b + 1 + 1, 0, none⟩ v2).cell? ⟨b, 0, none⟩ = some v0 ∧ (((W.setCell ⟨b, 0, none⟩ v0).setCell ⟨b + 1, 0, none⟩ v1).setCell ⟨b + 1 + 1, 0, none⟩ v2).cell? ⟨b + 1, 0, none⟩ = some v1 ∧ (((W.setCell ⟨b, 0, none⟩ v0).setCell ⟨b + 1, 0, none⟩ v1).setCell ⟨b + 1 + 1, 0, none⟩ v2).cell? ⟨b + 1 + 1, 0, none⟩ = some v2 ∧ Below b W (((W.setCell ⟨b, 0, none⟩ v0).setCell ⟨b + 1, 0, none⟩ v1).setCell ⟨b + 1 + 1, 0, none⟩ v2) := by
  have hp0 : (W.setCell ⟨b, 0, none⟩ v0).cell? ⟨b, 0, none⟩ = some v0 := World.cell?_setCell_same' _ _ _ (by rw [h0]; rfl)
  have hq0 : ((W.setCell ⟨b, 0, none⟩ v0).setCell ⟨b + 1, 0, none⟩ v1).cell? ⟨b + 1, 0, none⟩ = some v1 := World.cell?_setCell_same' _ _ _ (by rw [World.cell?_setCell_other _ _ _ _ (by simp), h1]; rfl)
  have hs0 : (((W.setCell ⟨b, 0, none⟩ v0).setCell ⟨b + 1, 0, none⟩ v1).setCell ⟨b + 1 + 1, 0, none⟩ v2).cell? ⟨b + 1 + 1, 0, none⟩ = some v2 := World.cell?_setCell_same' _ _ _ (by rw [World.cell?_setCell_other _ _ _ _ (by simp), World.cell?_setCell_other _ _ _ _ (by simp), h2]; rfl)
  exact ⟨((World.cell?_setCell_other _ _ _ _ (by simp)).trans (World.cell?_setCell_other _ _ _ _ (by simp))).trans hp0, (World.cell?_setCell_other _ _ _ _ (by simp)).trans hq0, hs0, (((Below.refl b W).setCell (p := ⟨b, 0, none⟩) (Nat.le_refl b) _).setCell (p := ⟨b + 1, 0, none⟩) (show b ≤ b + 1 by omega) _).setCell (p := ⟨b + 1 + 1, 0, none⟩) (show b ≤ b + 1 + 1 by omega) _⟩
theorem roomy_nil : Roomy none 0 0 := ⟨Nat.le_refl _, fun _ => ⟨rfl, rfl⟩⟩
def ParsedR (w : World) (n : Nat) (o : List Cmd × Int × Int) (e : Ending) (w' : World) : Prop :=
  ∃ a c, e = .returned (.tuple #[.slice a o.1.length c, .int .i64 o.2.1, .int .i64 o.2.2]) ∧ CmdsM (newB w.heap.size) n w' (.slice a o.1.length c) o.1 ∧ Below w.heap.size w w' ∧ Roomy a o.1.length c
theorem badTok_step {l : List Tok} {i : Nat} {t : Tok} (h : l[i]? = some t) (k : Nat) : badTok (l.drop i) k = if faultT t = 0 then badTok (l.drop (i + 1)) (k + 1) else some (k, faultT t) := by
  have hl := (List.getElem?_eq_some_iff.1 h).1
  rw [List.drop_eq_getElem_cons hl]
  rw [List.getElem?_eq_getElem hl] at h
  cases h
  rfl

set_option maxHeartbeats 8000000 in
set_option maxRecDepth 100000 in
theorem parse_room (A : Option Addr) (C : Nat) (L : List Tok) (w : World) (hL : ToksAt w A L) (hm : L.length ≤ maxLen) (ht : ∀ t ∈ L, t.kind = 1 ∨ t.kind = 2 → t.text.length ≤ maxLen) (hw : WordsAt w) :
    Calls Tryz.prog 52 #[.slice A L.length C] w (ParsedR w (L.length + 3) (parseS L)) := by
  unfold maxLen at hm
  have hmf : ∀ (fn : Fn) (first cap : Array Value) (w : World), (Instr.makeFunc fn first cap).run Tryz.prog w = .ok (.func fn first cap) w := fun _ _ _ _ => rfl
  obtain ⟨W0, hW0⟩ : ∃ W0, W0 = ((w.alloc (.cells #[.slice none 0 0] 90)).alloc (.cells #[.int .i64 0] 3)).alloc (.cells #[.int .i64 0] 25) := ⟨_, rfl⟩
  have hB0 : Below w.heap.size w W0 := by rw [hW0]; exact (((Below.refl _ _).alloc (Nat.le_refl _) _).alloc (by simp) _).alloc (by simp; omega) _
  have hz0 : W0.heap.size = w.heap.size + 3 := by rw [hW0]; simp
  obtain ⟨t0, t1, t2⟩ := three w (.cells #[.slice none 0 0] 90) (.cells #[.int .i64 0] 3) (.cells #[.int .i64 0] 25)
  rw [← hW0] at t0 t1 t2
  have c0 : W0.cell? ⟨w.heap.size, 0, none⟩ = some (.slice none 0 0) := by rw [cell_of t0]; rfl
  have c1 : W0.cell? ⟨w.heap.size + 1, 0, none⟩ = some (.int .i64 0) := by rw [cell_of t1]; rfl
  have c2 : W0.cell? ⟨w.heap.size + 1 + 1, 0, none⟩ = some (.int .i64 0) := by rw [cell_of t2]; rfl
  have f0 : W0.frozen? ⟨w.heap.size, 0, none⟩ = false := free12 t0 0
  have f1 : W0.frozen? ⟨w.heap.size + 1, 0, none⟩ = false := free12 t1 0
  have f2 : W0.frozen? ⟨w.heap.size + 1 + 1, 0, none⟩ = false := free12 t2 0
  clear t0 t1 t2
  have HW : Hid _ := hW0
  have HL := hid hL
  have HWD := hid hw
  have HTX := hid ht
  clear hW0 hL hw ht
  by_cases hbig : 400 < L.length
  · have HM := hid (show parseS L = ([], 0, 5) by unfold parseS; rw [if_pos hbig])
    have hbig' : (400 : Int) < (L.length : Int) := by omega
    clear hbig
    go_enter_defers Tryz.func52, Tryz.ntmps52
    go_wp2
    refine ⟨.tuple #[.slice none 0 0, .int .i64 0, .int .i64 5], by simp [results, Tryz.results52, go_sem], ?_⟩
    rw [HM.out]
    exact ⟨none, 0, rfl, rowM_nil _ _ _ _ _ _, (((Below.refl _ _).alloc (Nat.le_refl _) _).alloc (by simp) _).alloc (by simp; omega) _, roomy_nil⟩
  · have hbig' : ¬ (400 : Int) < (L.length : Int) := by omega
    have HP := hid (show parseS L = match badTok (L.drop 0) 0 with
        | some (i, e) => ([], (i : Int), e)
        | none => match scriptR L with
          | .ok (cs, _) => (cs, 0, 0)
          | .error (m, e) => ([], (L.length - m : Nat), e) by unfold parseS; rw [if_neg hbig]; rfl)
    go_enter_defers Tryz.func52, Tryz.ntmps52
    go_wp2
    rw [← HW.out]
    have HB0 := hid hB0
    have HC := hid (show ∀ W : World, Below W0.heap.size W0 W → W.cell? ⟨w.heap.size, 0, none⟩ = some (.slice none 0 0) ∧ W.cell? ⟨w.heap.size + 1, 0, none⟩ = some (.int .i64 0) ∧ W.cell? ⟨w.heap.size + 1 + 1, 0, none⟩ = some (.int .i64 0) ∧ W.frozen? ⟨w.heap.size, 0, none⟩ = false ∧ W.frozen? ⟨w.heap.size + 1, 0, none⟩ = false ∧ W.frozen? ⟨w.heap.size + 1 + 1, 0, none⟩ = false from
      fun W hb => ⟨wcell_next c0 hb, wcell_next c1 hb, wcell_next c2 hb, (hb.frozen (by simp [hz0])).trans f0, (hb.frozen (by simp [hz0])).trans f1, (hb.frozen (by simp [hz0])).trans f2⟩)
    clear c0 c1 c2 f0 f1 f2 hB0 hbig
    go_loopw [13] (fun v wr => ∃ i : Nat, i ≤ L.length ∧ v = .int .i64 i ∧ Hid (Below W0.heap.size W0 wr) ∧ Hid (parseS L = match badTok (L.drop i) i with
        | some (i, e) => ([], (i : Int), e)
        | none => match scriptR L with
          | .ok (cs, _) => (cs, 0, 0)
          | .error (m, e) => ([], (L.length - m : Nat), e))) (fun v _ => L.length - (intOf v).toNat)
    case atStart => exact ⟨0, Nat.zero_le _, rfl, Below.refl _ _, HP⟩
    case round =>
      obtain ⟨i, hi, rfl, HBw, hN⟩ := hrel
      by_cases hlt : i < L.length
      · have i1 : (i : Int) < (L.length : Int) := by omega
        have i3 : (0 : Int) ≤ (i : Int) := by omega
        obtain ⟨x, hx⟩ : ∃ x, L[i]? = some x := ⟨_, List.getElem?_eq_getElem hlt⟩
        obtain ⟨b, o, rfl, hbl, e0, e1, e2⟩ := (HL.out.below (HB0.out.trans (HBw.out.mono HB0.out.size))) i x hx
        have hxm : x ∈ L := List.mem_of_getElem? hx
        have HX := hid (HTX.out x hxm)
        have HN2 := hid (hN.out.trans (by rw [badTok_step hx]))
        have HCr := hid (HC.out wr HBw.out)
        have hal : Below wr.heap.size wr (wr.alloc (.cells #[.int .i64 x.kind, .string (S x.text), .int .i64 x.num] 149)) := (Below.refl _ _).alloc (Nat.le_refl _) _
        have HAL := hid hal
        clear hx hal hN hxm
        go_wp2_with fail
        refine (tcheck_w x _ HX.out).mono ?_
        rintro e w2 ⟨rfl, hb2⟩
        have hBr : Below wr.heap.size wr w2 := HAL.out.trans (hb2.mono HAL.out.size)
        have HB3 := hid (show Below W0.heap.size W0 w2 from HBw.out.trans (hBr.mono HBw.out.size))
        obtain ⟨y, hy⟩ : ∃ y, y = faultT x := ⟨_, rfl⟩
        rw [← hy]
        rw [← hy] at HN2
        clear hy hb2 hBr e0 e1 e2
        by_cases hy : y = 0
        · have HN4 := hid (HN2.out.trans (by rw [if_pos hy]))
          subst hy
          go_wp2
          exact ⟨⟨i + 1, by omega, by go_num, HB3, HN4⟩, by simp [intOf]; omega⟩
        · have HN4 := hid (show parseS L = ([], (i : Int), y) from HN2.out.trans (by rw [if_neg hy]))
          obtain ⟨c0, c1, c2, f0, f1, f2⟩ := HC.out w2 HB3.out
          go_wp2
          obtain ⟨m0, m1, m2, mB⟩ := stored3 (.slice none 0 0) (.int .i64 i) (.int .i64 y) c0 c1 c2
          refine ⟨.tuple #[.slice none 0 0, .int .i64 i, .int .i64 y], by simp only [results, Tryz.results52]; simp [go_sem, m0, m1, m2], ?_⟩
          rw [HN4.out]
          exact ⟨none, 0, rfl, rowM_nil _ _ _ _ _ _, (((HB0.out.trans (HB3.out.mono HB0.out.size)).setCell (p := ⟨w.heap.size, 0, none⟩) (Nat.le_refl _) _).setCell (p := ⟨w.heap.size + 1, 0, none⟩) (show w.heap.size ≤ w.heap.size + 1 by omega) _).setCell (p := ⟨w.heap.size + 1 + 1, 0, none⟩) (show w.heap.size ≤ w.heap.size + 1 + 1 by omega) _, roomy_nil⟩
      · have i1 : ¬ (i : Int) < (L.length : Int) := by omega
        have HN2 := hid (show parseS L = match scriptR L with
          | .ok (cs, _) => (cs, 0, 0)
          | .error (m, e) => ([], (L.length - m : Nat), e) from hN.out.trans (by rw [List.drop_eq_nil_of_le (by omega)]; rfl))
        have hBw := HB0.out.trans (HBw.out.mono HB0.out.size)
        have HLr := hid (HL.out.below hBw)
        have HWr := hid (HWD.out.next hBw)
        have HBW := hid hBw
        clear hN hBw
        go_wp2_with fail
        refine (rscript_any A C L wr HLr.out (by omega) HWr.out).mono ?_
        cases hs : scriptR L with
        | error m =>
          obtain ⟨m, er⟩ := m
          have HM := hid (show parseS L = ([], ((L.length - m : Nat) : Int), er) from HN2.out.trans (by rw [hs]))
          clear hs
          rintro e w1 ⟨rfl, hb⟩
          obtain ⟨d0, d1, d2, g0, g1, g2⟩ := HC.out w1 (HBw.out.trans (hb.mono HBw.out.size))
          have HB1 := hid (HBW.out.trans (hb.mono HBW.out.size))
          clear hb
          refine leaves_cons (f := 77) (args := #[.pointer (some ⟨w.heap.size, 0, none⟩), .pointer (some ⟨w.heap.size + 1, 0, none⟩), .pointer (some ⟨w.heap.size + 1 + 1, 0, none⟩)]) (by simp) (by simp [go_sem]) ?_
          refine (pcatch_mis w.heap.size _ _ _ (L.length - m) er w1 d0 g0 d1 g1 d2 g2).mono ?_
          rintro e u' w2 ⟨rfl, rfl, k0, k1, k2, hb2⟩
          show ∃ v, (results Tryz.f52 _).run Tryz.prog _ = .ok v _ ∧ ParsedR w _ _ (.returned v) _
          refine ⟨.tuple #[.slice none 0 0, .int .i64 (L.length - m : Nat), .int .i64 er], by simp [results, Tryz.results52, go_sem, k0, k1, k2], ?_⟩
          rw [HM.out]
          exact ⟨none, 0, rfl, rowM_nil _ _ _ _ _ _, HB1.out.trans hb2, roomy_nil⟩
        | ok y =>
          obtain ⟨cs, q⟩ := y
          have HM := hid (show parseS L = (cs, 0, 0) from HN2.out.trans (by rw [hs]))
          clear hs
          rintro e w1 ⟨a, c, rfl, hA, hb, hry⟩
          have HRY := hid hry
          obtain ⟨d0, d1, d2, g0, g1, g2⟩ := HC.out w1 (HBw.out.trans (hb.mono HBw.out.size))
          have HB1 := hid (HBW.out.trans (hb.mono HBW.out.size))
          have hszr : w.heap.size + 3 ≤ wr.heap.size := by rw [← hz0]; exact HBw.out.size
          have HA := hid hA
          clear hb hA hry
          go_wp2
          refine leaves_cons (f := 77) (args := #[.pointer (some ⟨w.heap.size, 0, none⟩), .pointer (some ⟨w.heap.size + 1, 0, none⟩), .pointer (some ⟨w.heap.size + 1 + 1, 0, none⟩)]) (by simp) (by simp [go_sem]) ?_
          refine (pcatch_idle _ _ _ _).mono ?_
          rintro e u' w2 ⟨rfl, rfl, rfl⟩
          show ∃ v, (results Tryz.f52 _).run Tryz.prog _ = .ok v _ ∧ ParsedR w _ _ (.returned v) _
          obtain ⟨m0, m1, m2, mB⟩ := stored3 (.slice a cs.length c) (.int .i64 0) (.int .i64 0) d0 d1 d2
          refine ⟨.tuple #[.slice a cs.length c, .int .i64 0, .int .i64 0], by simp only [results, Tryz.results52]; simp [go_sem, m0, m1, m2], ?_⟩
          rw [HM.out]
          have hup : ∀ k, newB wr.heap.size k → newB w.heap.size k := fun k hk => by have : wr.heap.size ≤ k := hk; show w.heap.size ≤ k; omega
          have hk : Keeps (newB wr.heap.size) w1 (((w1.setCell ⟨w.heap.size, 0, none⟩ (.slice a cs.length c)).setCell ⟨w.heap.size + 1, 0, none⟩ (.int .i64 0)).setCell ⟨w.heap.size + 1 + 1, 0, none⟩ (.int .i64 0)) :=
            ((Keeps.set w1 (p := ⟨w.heap.size, 0, none⟩) _ (fun k hk => by have : wr.heap.size ≤ k := hk; show k ≠ w.heap.size; omega)).trans (Keeps.set _ (p := ⟨w.heap.size + 1, 0, none⟩) _ (fun k hk => by have : wr.heap.size ≤ k := hk; show k ≠ w.heap.size + 1; omega))).trans (Keeps.set _ (p := ⟨w.heap.size + 1 + 1, 0, none⟩) _ (fun k hk => by have : wr.heap.size ≤ k := hk; show k ≠ w.heap.size + 1 + 1; omega))
          exact ⟨a, c, rfl, RowM.imp HA.out hup hk (fun _ _ h => CmdM.imp hup hk _ _ _ h), HB1.out.trans mB, HRY.out⟩
end Go.Proofs.YtepfniiojjefhaaGreatDoor
namespace Go.Proofs.YtepfniiojjefhaaGreatDoor
open Go.RowKit Go.Proofs

def DeepT : Nat → Tst → Prop
  | 0, _ => False
  | n + 1, t => ∀ x ∈ t.tests, DeepT n x
def DeepC : Nat → Cmd → Prop
  | 0, _ => False
  | n + 1, c => DeepT n c.test ∧ (∀ x ∈ c.thn, DeepC n x) ∧ ∀ x ∈ c.els, DeepC n x
theorem RowM.impM {A : Type} {Q : Nat → Prop} {k : Nat} {P P' : A → List Value → Prop} {w : World} {v : Value} {l : List A} (h : RowM Q k P w v l) (hp : ∀ x ∈ l, ∀ cs, P x cs → P' x cs) : RowM Q k P' w v l := by
  obtain ⟨a, c, hv, hm, hx⟩ := h
  refine ⟨a, c, hv, hm, fun i x hi => ?_⟩
  obtain ⟨b, o, cs, ha, hb, hQ, hl, hc, hP⟩ := hx i x hi
  exact ⟨b, o, cs, ha, hb, hQ, hl, hc, hp x (List.mem_of_getElem? hi) cs hP⟩
theorem TstM.less {Q : Nat → Prop} {w : World} : ∀ (n m : Nat) (t : Tst) (cs : List Value), DeepT n t → TstM Q m w t cs → TstM Q n w t cs := by
  intro n
  induction n with
  | zero => intro m t cs h; exact h.elim
  | succ n ih =>
    intro m t cs hd h
    cases m with
    | zero => exact h.elim
    | succ m =>
      obtain ⟨vn, vk, vt, h0, h1, h2, h3⟩ := h
      exact ⟨vn, vk, vt, h0, h1, h2, RowM.impM h3 fun x hx cs hc => ih m x cs (hd x hx) hc⟩
theorem CmdM.less {Q : Nat → Prop} {w : World} : ∀ (n m : Nat) (t : Cmd) (cs : List Value), DeepC n t → CmdM Q m w t cs → CmdM Q n w t cs := by
  intro n
  induction n with
  | zero => intro m t cs h; exact h.elim
  | succ n ih =>
    intro m t cs hd h
    cases m with
    | zero => exact h.elim
    | succ m =>
      obtain ⟨vx, vn, vk, vt, va, ve, h0, h1, h2, h3, h4⟩ := h
      exact ⟨vx, vn, vk, vt, va, ve, h0, h1, TstM.less n m _ _ hd.1 h2, RowM.impM h3 fun x hx cs hc => ih m x cs (hd.2.1 x hx) hc, RowM.impM h4 fun x hx cs hc => ih m x cs (hd.2.2 x hx) hc⟩
theorem CmdsM.less {Q : Nat → Prop} {n m : Nat} {w : World} {v : Value} {l : List Cmd} (hd : ∀ x ∈ l, DeepC n x) (h : CmdsM Q m w v l) : CmdsM Q n w v l := RowM.impM h fun x hx cs hc => CmdM.less n m x cs (hd x hx) hc
end Go.Proofs.YtepfniiojjefhaaGreatDoor
namespace Go.Proofs.YtepfniiojjefhaaGreatDoor
open Go.RowKit Go.Proofs

/-- P6.5. -/
def rdM (n : Nat) (s : List UInt8) : List Cmd × Int :=
  if (cutM s).2.2 ≠ 0 then ([], (cutM s).2.2)
  else if (parseS (cutM s).1).2.2 ≠ 0 then ([], (parseS (cutM s).1).2.2)
  else if ruleM n (parseS (cutM s).1).1 ≠ 0 then ([], ruleM n (parseS (cutM s).1).1)
  else ((parseS (cutM s).1).1, 0)
def RdP (w : World) (n : Nat) (r : List Cmd × Int) (e : Ending) (w' : World) : Prop :=
  ∃ a c, e = .returned (.tuple #[.slice a r.1.length c, .int .i64 r.2]) ∧ CmdsM (newB w.heap.size) n w' (.slice a r.1.length c) r.1 ∧ Below w.heap.size w w' ∧ Roomy a r.1.length c
theorem rd_err {w w' : World} {n : Nat} {r : List Cmd × Int} {x : Int} (h : r = ([], x)) (hb : Below w.heap.size w w') : RdP w n r (.returned (.tuple #[.slice none 0 0, .int .i64 x])) w' := by
  subst h
  exact ⟨none, 0, rfl, rowM_nil _ _ _ _ _ _, hb, roomy_nil⟩
set_option maxHeartbeats 4000000 in
set_option maxRecDepth 100000 in
theorem read_any (n : Nat) (s : List UInt8) (w : World) (hm : TabsM w) (ht : ∀ t ∈ (cutM s).1, t.kind = 1 ∨ t.kind = 2 → t.text.length ≤ maxLen) (hl : (cutM s).1.length ≤ 400)
    (hs : (parseS (cutM s).1).2.2 = 0 → ∀ x ∈ (parseS (cutM s).1).1, ShortC (n + 1) x ∧ DeepC (n + 1) x) :
    Calls Tryz.prog 29 #[.string (S s)] w (RdP w (n + 1) (rdM (n + 1) s)) := by
  have HM := hid hm
  obtain ⟨C, hC⟩ : ∃ C, C = cutM s := ⟨_, rfl⟩
  have HRD := hid (show rdM (n + 1) s = if C.2.2 ≠ 0 then ([], C.2.2) else if (parseS C.1).2.2 ≠ 0 then ([], (parseS C.1).2.2) else if ruleM (n + 1) (parseS C.1).1 ≠ 0 then ([], ruleM (n + 1) (parseS C.1).1) else ((parseS C.1).1, 0) by rw [hC]; rfl)
  rw [← hC] at ht hl hs
  obtain ⟨ts, p, x⟩ := C
  simp only at ht hl hs HRD
  obtain ⟨P, hP⟩ : ∃ P, P = parseS ts := ⟨_, rfl⟩
  rw [← hP] at hs HRD
  obtain ⟨cs, q, y⟩ := P
  simp only at hs HRD
  have HC := hid hC
  have HP := hid hP
  have HT := hid ht
  have HS := hid hs
  clear hm ht hs hC hP
  go_enter Tryz.func29, Tryz.ntmps29
  go_wp2_with fail
  refine (tcut_any s w HM.out.2).mono ?_
  rw [← HC.out]
  rintro e w1 ⟨a1, c1, rfl, hT1, hb1⟩
  simp only at hT1 ⊢
  have HT1 := hid hT1
  have HB1 := hid hb1
  clear hT1 hb1
  by_cases hx : x = 0
  · subst hx
    go_wp2_with fail
    refine (parse_room a1 c1 ts w1 HT1.out (by unfold maxLen; omega) HT.out (HM.out.next HB1.out).1.1).mono ?_
    rw [← HP.out]
    rintro e w2 ⟨a2, c2, rfl, hC2, hb2, hr2⟩
    simp only at hC2 hr2 ⊢
    have HC2 := hid hC2
    have HB2 := hid (HB1.out.trans (hb2.mono HB1.out.size))
    have HN2 := hid (show CmdsM (newB w.heap.size) (ts.length + 3) w2 (.slice a2 cs.length c2) cs from RowM.imp hC2 (fun k hk => Nat.le_trans HB1.out.size hk) (Keeps.refl _ _) fun _ _ h => CmdM.imp (fun k hk => Nat.le_trans HB1.out.size hk) (Keeps.refl _ _) _ _ _ h)
    have HR2 := hid hr2
    clear hC2 hb2 hr2
    by_cases hy : y = 0
    · have HS0 := hid (HS.out hy)
      clear HS
      subst hy
      obtain ⟨z, hz⟩ : ∃ z, z = ruleM (n + 1) cs := ⟨_, rfl⟩
      rw [← hz] at HRD
      have HZ := hid hz
      clear hz
      go_wp2_with fail
      refine (rcheck_any n cs a2 c2 w2 (HM.out.next HB2.out).1 HR2.out.1 (fun h => HR2.out.2 (by rw [h]; rfl)) (fun x hx => (HS0.out x hx).1) (CmdsM.less (fun x hx => (HS0.out x hx).2) HC2.out.any)).mono ?_
      rw [← HZ.out]
      rintro e w3 ⟨rfl, hb3⟩
      have HB3 := hid (HB2.out.trans (hb3.mono HB2.out.size))
      have HN3 := hid (CmdsM.less (fun x hx => (HS0.out x hx).2) (CmdsM.next HN2.out hb3))
      clear hb3
      by_cases hz : z = 0
      · have HE := hid (show RdP w (n + 1) (rdM (n + 1) s) (.returned (.tuple #[.slice a2 cs.length c2, .int .i64 0])) w3 by
          rw [HRD.out, if_neg (by simp), if_neg (by simp), if_neg (by simpa using hz)]
          exact ⟨a2, c2, rfl, HN3.out, HB3.out, HR2.out⟩)
        subst hz
        go_wp2
        go_ret2
        exact HE.out
      · have HE := hid (show RdP w (n + 1) (rdM (n + 1) s) (.returned (.tuple #[.slice none 0 0, .int .i64 z])) w3 from rd_err (by rw [HRD.out, if_neg (by simp), if_neg (by simp), if_pos hz]) HB3.out)
        go_wp2
        go_ret2
        exact HE.out
    · have HE := hid (show RdP w (n + 1) (rdM (n + 1) s) (.returned (.tuple #[.slice none 0 0, .int .i64 y])) w2 from rd_err (by rw [HRD.out, if_neg (by simp), if_pos hy]) HB2.out)
      go_wp2
      go_ret2
      exact HE.out
  · have HE := hid (show RdP w (n + 1) (rdM (n + 1) s) (.returned (.tuple #[.slice none 0 0, .int .i64 x])) w1 from rd_err (by rw [HRD.out, if_pos hx]) HB1.out)
    go_wp2
    go_ret2
    exact HE.out
end Go.Proofs.YtepfniiojjefhaaGreatDoor
namespace Go.Proofs.YtepfniiojjefhaaGreatDoor
open Go.RowKit Go.Proofs

def tokB : List Tok := [⟨1, [114, 101, 113, 117, 105, 114, 101], 0⟩, ⟨5, [91], 0⟩, ⟨4, [102, 105, 108, 101, 105, 110, 116, 111], 0⟩, ⟨5, [44], 0⟩, ⟨4, [105, 109, 97, 112, 52, 102, 108, 97, 103, 115], 0⟩, ⟨5, [93], 0⟩, ⟨5, [59], 0⟩, ⟨1, [105, 102], 0⟩, ⟨1, [104, 101, 97, 100, 101, 114], 0⟩, ⟨2, [99, 111, 110, 116, 97, 105, 110, 115], 0⟩, ⟨4, [115, 117, 98, 106, 101, 99, 116], 0⟩, ⟨4, [119, 111, 114, 107], 0⟩, ⟨5, [123], 0⟩, ⟨1, [115, 101, 116, 102, 108, 97, 103], 0⟩, ⟨4, [92, 83, 101, 101, 110], 0⟩, ⟨5, [59], 0⟩, ⟨1, [102, 105, 108, 101, 105, 110, 116, 111], 0⟩, ⟨4, [119, 111, 114, 107], 0⟩, ⟨5, [59], 0⟩, ⟨5, [125], 0⟩, ⟨1, [101, 108, 115, 105, 102], 0⟩, ⟨1, [115, 105, 122, 101], 0⟩, ⟨2, [111, 118, 101, 114], 0⟩, ⟨3, [], 300⟩, ⟨5, [123], 0⟩, ⟨1, [100, 105, 115, 99, 97, 114, 100], 0⟩, ⟨5, [59], 0⟩, ⟨5, [125], 0⟩]
/-- bob's commands. -/
def cmdB : List Cmd := [⟨1, [[102, 105, 108, 101, 105, 110, 116, 111], [105, 109, 97, 112, 52, 102, 108, 97, 103, 115]], noneT, [], []⟩, ⟨2, [], ⟨6, 2, 0, [[115, 117, 98, 106, 101, 99, 116]], [[119, 111, 114, 107]], false, 0, []⟩, [⟨8, [[92, 83, 101, 101, 110]], noneT, [], []⟩, ⟨5, [[119, 111, 114, 107]], noneT, [], []⟩], [⟨2, [], ⟨10, 0, 0, [], [], true, 300, []⟩, [⟨4, [], noneT, [], []⟩], []⟩]⟩]
def scrF : List UInt8 := [102, 105, 108, 101, 105, 110, 116, 111, 32, 34, 97, 34, 59]
def scrK : List UInt8 := [107, 101, 101, 112]
def tokF : List Tok := [⟨1, [102, 105, 108, 101, 105, 110, 116, 111], 0⟩, ⟨4, [97], 0⟩, ⟨5, [59], 0⟩]
def cmdF : List Cmd := [⟨5, [[97]], noneT, [], []⟩]
set_option maxRecDepth 100000 in
theorem cut_B : cutM scrB = (tokB, 0, 0) := by kernel_rfl
theorem cut_F : cutM scrF = (tokF, 0, 0) := by kernel_rfl
theorem cut_K : cutM scrK = ([⟨1, [107, 101, 101, 112], 0⟩], 0, 0) := by kernel_rfl
theorem cut_0 : cutM [] = ([], 0, 0) := by kernel_rfl
theorem parse_B : parseS tokB = (cmdB, 0, 0) := by kernel_rfl
theorem parse_F : parseS tokF = (cmdF, 0, 0) := by kernel_rfl
theorem parse_K : parseS [⟨1, [107, 101, 101, 112], 0⟩] = ([], 1, 4) := by kernel_rfl
theorem parse_0 : parseS [] = ([], 0, 0) := by kernel_rfl
theorem rule_B : ruleM 5 cmdB = 0 := by kernel_rfl
theorem rule_F : ruleM 5 cmdF = 8 := by kernel_rfl
theorem rule_0 : ruleM 5 [] = 0 := by kernel_rfl
theorem fine_B : (∀ t ∈ tokB, t.kind = 1 ∨ t.kind = 2 → t.text.length ≤ maxLen) ∧ ∀ x ∈ cmdB, ShortC 5 x ∧ DeepC 5 x := by
  refine ⟨fun t ht _ => ?_, ?_⟩
  · have h : ∀ t ∈ tokB, t.text.length ≤ 20 := by decide
    have := h t ht
    unfold maxLen
    omega
  · simp [cmdB, ShortC, DeepC, DeepT, noneT, maxLen]
theorem fine_F : (∀ t ∈ tokF, t.kind = 1 ∨ t.kind = 2 → t.text.length ≤ maxLen) ∧ ∀ x ∈ cmdF, ShortC 5 x ∧ DeepC 5 x := by
  refine ⟨fun t ht _ => ?_, ?_⟩
  · have h : ∀ t ∈ tokF, t.text.length ≤ 20 := by decide
    have := h t ht
    unfold maxLen
    omega
  · simp [cmdF, ShortC, DeepC, DeepT, noneT, maxLen]
theorem read_B (w : World) (hm : TabsM w) : Calls Tryz.prog 29 #[.string (S scrB)] w (RdP w 5 (cmdB, 0)) := by
  have h := read_any 4 scrB w hm (by rw [cut_B]; exact fine_B.1) (by rw [cut_B]; decide) (by rw [cut_B]; simp only; rw [parse_B]; exact fun _ => fine_B.2)
  rw [show rdM (4 + 1) scrB = (cmdB, 0) by unfold rdM; rw [cut_B]; simp only; rw [parse_B]; simp only; rw [rule_B]; simp] at h
  exact h
theorem read_F (w : World) (hm : TabsM w) : Calls Tryz.prog 29 #[.string (S scrF)] w (RdP w 5 ([], 8)) := by
  have h := read_any 4 scrF w hm (by rw [cut_F]; exact fine_F.1) (by rw [cut_F]; decide) (by rw [cut_F]; simp only; rw [parse_F]; exact fun _ => fine_F.2)
  rw [show rdM (4 + 1) scrF = ([], 8) by unfold rdM; rw [cut_F]; simp only; rw [parse_F]; simp only; rw [rule_F]; simp] at h
  exact h
theorem read_K (w : World) (hm : TabsM w) : Calls Tryz.prog 29 #[.string (S scrK)] w (RdP w 5 ([], 4)) := by
  have h := read_any 4 scrK w hm (by rw [cut_K]; intro t ht _; simp at ht; subst ht; simp [maxLen]) (by rw [cut_K]; decide) (by rw [cut_K]; simp only; rw [parse_K]; exact fun e => by simp at e)
  rw [show rdM (4 + 1) scrK = ([], 4) by unfold rdM; rw [cut_K]; simp only; rw [parse_K]; simp] at h
  exact h
theorem read_0 (w : World) (hm : TabsM w) : Calls Tryz.prog 29 #[.string (S [])] w (RdP w 5 ([], 0)) := by
  have h := read_any 4 [] w hm (by rw [cut_0]; exact fun t ht => by cases ht) (by rw [cut_0]; decide) (by rw [cut_0]; exact fun _ x hx => by cases hx)
  rw [show rdM (4 + 1) [] = ([], 0) by unfold rdM; rw [cut_0]; simp only; rw [parse_0]; simp only; rw [rule_0]; simp] at h
  exact h
end Go.Proofs.YtepfniiojjefhaaGreatDoor
namespace Go.Proofs.YtepfniiojjefhaaGreatDoor
open Go.RowKit Go.Proofs

/-- A state with an empty inbox alone, as it is handed back. -/
def FnP (w : World) (e : Ending) (w' : World) : Prop := ∃ b, e = .returned (.tuple #[.agg #[.slice (some ⟨b, 0, none⟩) 1 1, .slice none 0 0], .int .i64 0]) ∧ w'.heap[b]? = some (.cells #[.string ⟨#[73, 78, 66, 79, 88]⟩, .int .i64 1, .slice none 0 0] 110) ∧ w.heap.size ≤ b ∧ Below w.heap.size w w'
set_option maxHeartbeats 1000000 in
set_option maxRecDepth 100000 in
theorem pisUser (u : Nat) (hu : u < 3) (w : World) : Calls Tryz.prog 46 #[.int .i64 u] w fun e w' => e = .returned (.bool true) ∧ w' = w := by
  have h0 : (0 : Int) ≤ (u : Int) := by omega
  have h1 : (u : Int) < 3 := by omega
  have h2 : (u : Int) ≤ 2 := by omega
  go_enter Tryz.func46, Tryz.ntmps46
  go_wp2
  go_ret
  exact ⟨rfl, rfl⟩
set_option maxHeartbeats 1000000 in
set_option maxRecDepth 100000 in
theorem fold_nil (u : Nat) (hu : u < 3) (w : World) : Calls Tryz.prog 25 #[.slice none 0 0, .int .i64 u] w (FnP w) := by
  have HU := hid (fun v => pisUser u hu v)
  go_enter Tryz.func25, Tryz.ntmps25
  go_wp2
  go_loopw [16] (fun i wr => i = .int .i64 0 ∧ wr = w.alloc (.cells #[.slice none 0 0, .slice none 0 0] 85)) (fun _ _ => 0)
  case atStart => exact ⟨rfl, rfl⟩
  case round =>
    obtain ⟨rfl, rfl⟩ := hrel
    go_wp2_with fail
    refine (HU.out _).mono ?_
    rintro e v ⟨rfl, hv⟩
    have hv' := hv.symm
    subst hv'
    clear hv
    go_wp2
    go_loopw [36] (fun i wr => i = .int .i64 0 ∧ wr = ((w.alloc (.cells #[.slice none 0 0, .slice none 0 0] 85)).alloc (.cells #[.string ⟨#[73, 78, 66, 79, 88]⟩, .int .i64 1, .slice none 0 0] 110)).alloc (.cells #[.slice (some ⟨w.heap.size + 1, 0, none⟩) 1 1, .slice none 0 0] 85)) (fun _ _ => 0)
    case atStart => exact ⟨rfl, rfl⟩
    case round =>
      obtain ⟨rfl, rfl⟩ := hrel
      go_wp2
      refine bodyPost_ret (v := .tuple #[.agg #[.slice (some ⟨w.heap.size + 1, 0, none⟩) 1 1, .slice none 0 0], .int .i64 0]) (by simp [results, Tryz.results25, go_sem]) rfl ?_
      refine ⟨w.heap.size + 1, rfl, ?_, by omega, ((((Below.refl _ _).alloc (Nat.le_refl _) _).alloc (by simp) _).alloc (by simp; omega) _)⟩
      have h1 := heap_alloc_new (w.alloc (.cells #[.slice (some ⟨w.heap.size + 1, 0, none⟩) 1 1, .slice none 0 0] 85)) (.cells #[.string ⟨#[73, 78, 66, 79, 88]⟩, .int .i64 1, .slice none 0 0] 110)
      have h2 : (w.alloc (.cells #[.slice (some ⟨w.heap.size + 1, 0, none⟩) 1 1, .slice none 0 0] 85)).heap.size = w.heap.size + 1 := by simp
      rw [h2] at h1
      exact (((Below.refl _ _).alloc (Nat.le_refl _) _).block (w.heap.size + 1) (by simp)).trans h1
end Go.Proofs.YtepfniiojjefhaaGreatDoor
namespace Go.Proofs.YtepfniiojjefhaaGreatDoor
open Go.RowKit Go.Proofs

theorem infoSt : (Tryz.prog.info? 85).map (fun i => (i.zero, i.size, i.bytes)) = some (some (.agg #[.slice none 0 0, .slice none 0 0]), 2, 48) := by kernel_rfl
set_option maxHeartbeats 1000000 in
set_option maxRecDepth 100000 in
theorem cloneSt (ad : Addr) (n c : Nat) (news : List Value) (w : World) (hl : news.length = n * 2) (hn : n ≤ 1000) (hc : ∀ j u, news[j]? = some u → w.cell? (ad.add j) = some u) (h1 : ∀ u ∈ news, u.oneCell' = true) :
    Calls Tryz.prog 48 #[.slice (some ad) n c] w fun e w' => ∃ v', e = .returned v' ∧ (w'.ownsRow w.heap.size 85 2 v' n news) ∧ Below w.heap.size w w' := by
  obtain ⟨i0, hi, hz0, hz1, hz2⟩ := info_parts infoSt
  have q22 : ∀ (w : World) (a : Option Addr) (n c n' c' : Nat), (binOp .eql 31 (.slice a n c) (.slice none n' c')).run Tryz.prog w = .ok (.bool a.isNone) w := fun w a n c n' c' => Lib.run_eql_slice_nil w _ _ a n c n' c' Tryz.underlying31
  have HC := hid hc
  have H1 := hid h1
  have HL := hid hl
  clear hc h1 hl
  go_enter Tryz.func48, Tryz.ntmps48
  go_wp2_with (at_builtin; refine wpList_append_own _ rfl _ _ 31 rfl w.heap.size 85 i0 _ 2 48 Tryz.underlying31 hi hz0 hz1 hz2 rfl (by decide) _ _ _ rfl (World.ownsRow_made w #[] 0 (Nat.le_refl _) (Nat.zero_le _) rfl) ad n c news rfl ?qc1 ?qc2 ?qc3 ?qc4 ?qc5 ?qc6 ?_)
  case qc1 => exact HL.out
  case qc2 => exact fun j u hj => Lib.cell?_alloc_some _ (HC.out j u hj)
  case qc3 => exact H1.out
  case qc4 => unfold maxLen; omega
  case qc5 => omega
  case qc6 => simp
  intro v' w1 hown hgrow hnil
  have HO := hid hown
  have HB := hid (show Below w.heap.size w w1 from ((Below.refl _ w).alloc (Nat.le_refl _) _).grown hgrow (by simp) (by intro k hk; simp [Value.ownBlock] at hk; omega))
  clear hown hgrow hnil
  go_wp2
  go_ret
  exact ⟨v', rfl, by simpa using HO.out, HB.out⟩
theorem but_set {b : Nat} {w w' : World} (h : But b w w') (o : Nat) (v : Value) : But b w (w'.setCell ⟨b, o, none⟩ v) :=
  ⟨h.os, h.tape, h.output, by simpa [World.setCell] using h.size, fun k hk hn => (Below.heap_setCell _ _ _ _ hn).trans (h.block k hk hn)⟩
theorem but_drew {b : Nat} {w w' : World} (h : But b w w') : But b w w'.drew := ⟨h.os, h.tape, h.output, h.size, h.block⟩
theorem but_cell {b : Nat} {w w' : World} {p : Addr} {v : Value} (h : But b w w') (hp : w.cell? p = some v) (hn : p.block ≠ b) : w'.cell? p = some v :=
  (World.cell?_of_block (w := w) (h.block p.block (World.block_lt_of_cell? w _ hp) hn)).trans hp
theorem add_block (a : Addr) (j : Nat) : (a.add j).block = a.block := by unfold Addr.add; split <;> rfl
/-- A ledger's box, and nothing else, has changed. -/
def LgR (w : World) (b : Nat) (v0 v1 v2 v3 v4 v5 : Value) (wx : World) : Prop := wx.heap[b]? = some (.cells #[v0, v1, v2, v3, v4, v5] 56) ∧ But b w wx
theorem LgR.of {w : World} {b : Nat} {v0 v1 v2 v3 v4 v5 : Value} (h : w.heap[b]? = some (.cells #[v0, v1, v2, v3, v4, v5] 56)) (x y : Value) : LgR w b v0 v1 x y v4 v5 ((w.setCell ⟨b, 2, none⟩ x).setCell ⟨b, 3, none⟩ y).drew := by
  refine ⟨?_, but_drew (but_set (but_set (But.refl _ _) 2 x) 3 y)⟩
  have h1 := heap_setCell_same _ b 3 _ _ y (heap_setCell_same w b 2 _ _ x h)
  simp at h1
  exact h1
theorem LgR.of' {w : World} {b : Nat} {v0 v1 v2 v3 v4 v5 : Value} (h : w.heap[b]? = some (.cells #[v0, v1, v2, v3, v4, v5] 56)) (x y : Value) : LgR w b v0 v1 x y v4 v5 ((w.setCell ⟨b, 3, none⟩ y).setCell ⟨b, 2, none⟩ x).drew := by
  refine ⟨?_, but_drew (but_set (but_set (But.refl _ _) 3 y) 2 x)⟩
  have h1 := heap_setCell_same _ b 2 _ _ x (heap_setCell_same w b 3 _ _ y h)
  simp at h1
  exact h1
theorem lg_base {w : World} {B B' : Nat} {e : TypeId} {k n : Nat} {v : Value} {xs : List Value} (h : w.ownsRow B e k v n xs) (hB : B' ≤ B) : w.ownsRow B' e k v n xs := by
  refine ⟨h.1, ?_⟩
  rcases h.2 with h' | ⟨g, cap, cur, h1, h2, h3⟩
  · exact .inl h'
  · exact .inr ⟨g, cap, cur, h1, Nat.le_trans hB h2, h3⟩
/-- The ledger's box behind settle. -/
def StP (w : World) (b : Nat) (td ts : Value) (sy wa : Int) (ad : Addr) (n c : Nat) (news : List Value) (e : Ending) (w' : World) : Prop :=
  (∃ v, e = .returned v) ∧ ∃ v', w'.heap[b]? = some (.cells #[td, ts, .int .i64 (sy + wa), .int .i64 0, v', .slice (some ad) n c] 56) ∧ w'.ownsRow w.heap.size 85 2 v' n news ∧ But b w w'
set_option maxHeartbeats 1000000 in
set_option maxRecDepth 100000 in
theorem settle_any (b : Nat) (td ts v4 : Value) (sy wa : Int) (ad : Addr) (n c : Nat) (news : List Value) (w : World) (hb : w.heap[b]? = some (.cells #[td, ts, .int .i64 sy, .int .i64 wa, v4, .slice (some ad) n c] 56))
    (hsy : 0 ≤ sy ∧ sy ≤ 1000000) (hwa : 0 ≤ wa ∧ wa ≤ 1000000) (hl : news.length = n * 2) (hn : n ≤ 1000) (hc : ∀ j u, news[j]? = some u → w.cell? (ad.add j) = some u) (h1 : ∀ u ∈ news, u.oneCell' = true) (had : ad.block ≠ b) :
    Calls Tryz.prog 26 #[.pointer (some ⟨b, 0, none⟩)] w (StP w b td ts sy wa ad n c news) := by
  have HB := hid hb
  have HC := hid hc
  have H1 := hid h1
  have HL := hid hl
  have hwr : IntKind.i64.wrap (sy + wa) = sy + wa := by rw [IntKind.wrap_i64]; omega
  have c0 : w.cell? ⟨b, 0, none⟩ = some td := by simp [World.cell?, hb]
  have c1 : w.cell? ⟨b, 1, none⟩ = some ts := by simp [World.cell?, hb]
  have c2 : w.cell? ⟨b, 2, none⟩ = some (.int .i64 sy) := by simp [World.cell?, hb]
  have c3 : w.cell? ⟨b, 3, none⟩ = some (.int .i64 wa) := by simp [World.cell?, hb]
  have c4 : w.cell? ⟨b, 4, none⟩ = some v4 := by simp [World.cell?, hb]
  have c5 : w.cell? ⟨b, 5, none⟩ = some (.slice (some ad) n c) := by simp [World.cell?, hb]
  have zf : ∀ o, w.frozen? ⟨b, o, none⟩ = false := fun o => by simp [World.frozen?, hb]
  clear hb hc h1 hl
  go_enter Tryz.func26, Tryz.ntmps26
  go_upto_region 0 with fail
  have HE1 := hid (LgR.of HB.out (.int .i64 (sy + wa)) (.int .i64 0))
  have HE2 := hid (LgR.of' HB.out (.int .i64 (sy + wa)) (.int .i64 0))
  go_cut [] (fun wx => LgR w b td ts (.int .i64 (sy + wa)) (.int .i64 0) v4 (.slice (some ad) n c) wx)
  case first =>
    go_region_law (fail)
    all_goals first
      | (have HE := HE1; go_wp2_with fail; go_meet; exact HE.out)
      | (have HE := HE2; go_wp2_with fail; go_meet; exact HE.out)
      | fail
  case rest =>
    obtain ⟨hx, hB⟩ := hcut
    obtain ⟨W1, rfl⟩ : ∃ W, W = wc := ⟨_, rfl⟩
    have hlt : b < W1.heap.size := (Array.getElem?_eq_some_iff.1 hx).1
    have HX := hid hx
    have HBT := hid hB
    have d5 : W1.cell? ⟨b, 5, none⟩ = some (.slice (some ad) n c) := by simp [World.cell?, hx]
    clear hx hB c0 c1 c2 c3 c4 c5 zf
    go_wp2_with fail
    refine (cloneSt ad n c news W1 HL.out hn (fun j u hj => but_cell HBT.out (HC.out j u hj) (by rw [add_block]; exact had)) H1.out).mono ?_
    rintro e w2 ⟨v', rfl, ho, hb2⟩
    obtain ⟨a', c', rfl⟩ := own_form ho
    have hx2 := (hb2.block b hlt).trans HX.out
    have e4 : w2.cell? ⟨b, 4, none⟩ = some v4 := by simp [World.cell?, hx2]
    have zf : ∀ o, w2.frozen? ⟨b, o, none⟩ = false := fun o => by simp [World.frozen?, hx2]
    have hz1 := HBT.out.size
    have HE := hid (show StP w b td ts sy wa ad n c news (.returned (.tuple #[])) (w2.setCell ⟨b, 4, none⟩ (.slice a' n c')) from ⟨⟨_, rfl⟩, .slice a' n c', by have := heap_setCell_same w2 b 4 _ _ (.slice a' n c') hx2; simpa using this, by
      have h := owns_keep (w' := w2.setCell ⟨b, 4, none⟩ (.slice a' n c')) ho fun g hg => Below.heap_setCell _ _ _ _ (fun e => by have e' : g = b := e; have := (World.ownsRow.lt ho g hg).1; omega)
      exact lg_base h hz1, but_set ((HBT.out).trans (But.of hb2)) 4 _⟩)
    clear ho hb2 hx2
    go_wp2
    go_end0
    exact HE.out
end Go.Proofs.YtepfniiojjefhaaGreatDoor
