/-
  What readScript and script.Parse do: the walks. A panic of the reader goes through the door, where it is recovered.
-/
import Derived.Test.YtnjlakengbhokaaDoorScrRd11
import Derived.Test.YtnjlakengbhokaaDoorTokChk
import Derived.Defers
import Derived.Recover
import Derived.Tactics
import Derived.Tactics2
import Derived.Laws.Pointers
namespace Go.Proofs.YtnjlakengbhokaaDoor
open Go.RowKit Go.Proofs

/-- What readScript does: it hands commands back, or it panics. -/
def Sc (w : World) (L : List Tok) (x : Rdg (List Cmd)) (e : Ending) (w' : World) : Prop :=
  match x with
  | .ok (l, _) => ∃ a c, e = .returned (.slice a l.length c) ∧ CmdsM (newB w.heap.size) (L.length + 3) w' (.slice a l.length c) l ∧ Below w.heap.size w w'
  | .error m => e = .panicked (misPanic L m) ∧ Below w.heap.size w w'
theorem But.lowB {b : Nat} {w w' : World} (h : But b w w') (hb : b ≤ w.heap.size) : Below b w w' := ⟨h.os, h.tape, h.output, h.size, fun k hk => h.block k (by omega) (by omega)⟩

set_option maxHeartbeats 8000000 in
set_option maxRecDepth 100000 in
theorem rscript_any (A : Option Addr) (C : Nat) (L : List Tok) (w : World) (hL : ToksAt w A L) (hsm : L.length ≤ 400) (hw : WordsAt w) :
    Calls Tryd.prog 29 #[.slice A L.length C] w (Sc w L (scriptR L)) := by
  have hG := hw.pos
  obtain ⟨W0, hW0⟩ : ∃ W0, W0 = w.alloc (.cells #[.slice A L.length C, .int .i64 0] 74) := ⟨_, rfl⟩
  have hal : Below w.heap.size w W0 := by rw [hW0]; exact (Below.refl _ _).alloc (Nat.le_refl _) _
  have hbl : w.heap.size < W0.heap.size := by rw [hW0]; simp
  have HR0 := hid (show RdS W0 w.heap.size A C L L from ⟨by rw [hW0, heap_alloc_new]; simp, hL.below hal, fun i x hx q o ha => by
    obtain ⟨b, o', ha', hb, _⟩ := hL i x hx
    rw [ha] at ha'
    cases ha'
    exact hb, ⟨[], rfl⟩, hsm⟩)
  have HW := hid (hw.next hal)
  have HAL := hid hal
  have HWE := hid hW0
  have HIH := hid (rcmd_any (L.length + 2)).1
  obtain ⟨i0, hi, hz0, hz1, hz2⟩ := info_parts infoCmd
  have HL := hid (show scriptR L = scriptF (cmdP (L.length + 2) true 0) L.length [] L from rfl)
  clear hL hw hW0 hal
  go_enter Tryd.func29, Tryd.ntmps29
  go_wp2
  rw [← HWE.out]
  go_loopw [4] (fun v wr => ∃ (acc : List Cmd) (q : List Tok) (a0 : Option Addr) (c0 m : Nat), v = .slice a0 acc.length c0 ∧ OwnCs W0.heap.size (L.length + 3) wr (.slice a0 acc.length c0) acc ∧ RdS wr w.heap.size A C L q ∧ q.length ≤ m ∧ q.length ≤ L.length ∧ acc.length + q.length ≤ 401 ∧
      Hid (scriptR L = scriptF (cmdP (L.length + 2) true 0) m acc q) ∧ But w.heap.size W0 wr) (fun _ wr => restS w.heap.size L.length wr)
  case atStart => exact ⟨[], L, none, 0, L.length, rfl, OwnRow.nil _ _ _ _ _, HR0.out, Nat.le_refl _, Nat.le_refl _, by simp; omega, HL, But.refl _ _⟩
  case round =>
      obtain ⟨acc, q, a0, c0, m, rfl, hO, hRr, hqm, hqn, hacc, hN, hBr⟩ := hrel
      have HO := hid hO
      have HRr := hid hRr
      have HBr := hid hBr
      have HM := hid (restS_is hRr)
      have hszr := hBr.size
      clear hO hRr hBr
      go_wp2_with fail
      refine (rended_any w.heap.size A C L q wr HRr.out).mono ?_
      rintro e w3 ⟨rfl, hb3⟩
      have HR3 := hid (HRr.out.next hb3)
      have HB3 := hid (HBr.out.trans (But.of hb3))
      have HO3 := hid (HO.out.keep (firm_cmd (L.length + 3)) (But.of hb3) hbl)
      have HW3 := hid (HW.out.but HB3.out hG)
      clear hb3
      cases q with
      | nil =>
        have HF := hid (show scriptR L = .ok (acc, []) by rw [hN.out]; cases m <;> rfl)
        have HV := hid (show CmdsM (newB w.heap.size) (L.length + 3) w3 (.slice a0 acc.length c0) acc from by
          have := HO3.out.rowM (firm_cmd (L.length + 3)) (by unfold maxLen; omega)
          have hup : ∀ k, newB' W0.heap.size k → newB w.heap.size k := fun k hk => by have : W0.heap.size ≤ k := hk; show w.heap.size ≤ k; omega
          exact RowM.imp this hup (Keeps.refl _ _) (fun _ _ h => CmdM.imp hup (Keeps.refl _ _) _ _ _ h))
        simp only [List.isEmpty]
        go_wp2
        go_ret
        rw [HF.out]
        exact ⟨_, _, rfl, HV.out, HAL.out.trans (HB3.out.lowB (Nat.le_of_lt hbl))⟩
      | cons t q =>
          obtain ⟨m, rfl⟩ : ∃ m', m = m' + 1 := ⟨m - 1, by simp at hqm; omega⟩
          have HE := hid (show scriptR L = thenR (cmdP (L.length + 2) true 0 (t :: q)) fun c q => scriptF (cmdP (L.length + 2) true 0) m (acc ++ [c]) q by rw [hN.out, scriptF_go])
          simp only [List.isEmpty]
          go_wp2_with fail
          refine (HIH.out 0 w.heap.size A C L (t :: q) w3 HR3.out HW3.out hG (by omega) (by omega)).mono ?_
          cases ht : cmdP (L.length + 2) true 0 (t :: q) with
          | error mm =>
            have HF := hid (show scriptR L = .error mm by rw [HE.out, ht]; rfl)
            clear ht
            rintro e w4 ⟨rfl, hB4⟩
            have HB4 := hid (HB3.out.trans hB4)
            clear hB4
            go_wp2
            rw [HF.out]
            exact ⟨rfl, rfl, HAL.out.trans (HB4.out.lowB (Nat.le_of_lt hbl))⟩
          | ok y =>
            obtain ⟨x2, q2⟩ := y
            have hq2 := cmdP_len _ _ _ _ _ _ ht
            have HF := hid (show scriptR L = scriptF (cmdP (L.length + 2) true 0) m (acc ++ [x2]) q2 by rw [HE.out, ht]; rfl)
            clear ht
            rintro e w4 ⟨v, rfl, ⟨cs2, rfl, hT4⟩, hR4, hB4⟩
            obtain ⟨ax, cx, an, cn, ak, ck, at', ct, aa, ca, ae, ce, m02, _, rfl, _⟩ := cmd_form hT4
            have HR4 := hid hR4
            have HB4 := hid (HB3.out.trans hB4)
            obtain ⟨css, h1, h2, h3, h4⟩ := HO3.out.keep (firm_cmd (L.length + 3)) hB4 hbl
            have hrow3 : ∀ k, (Value.slice a0 acc.length c0).ownBlock = some k → k < w3.heap.size := fun k hk => by
              obtain ⟨_, g1, _⟩ := HO3.out
              exact (World.ownsRow.lt g1 k hk).2
            have hsz4 := HB4.out.size
            have hsz34 := hB4.size
            have hsz3 := HB3.out.size
            have HX := hid (show CmdM (rowQ W0.heap.size w4 (.slice a0 acc.length c0)) (L.length + 3) w4 x2 [.int .i64 x2.kind, .slice ax x2.texts.length cx, .int .i64 x2.test.kind, .int .i64 x2.test.mat, .int .i64 x2.test.part, .slice an x2.test.names.length cn, .slice ak x2.test.keys.length ck, .bool x2.test.over, .int .i64 x2.test.limit, .slice at' x2.test.tests.length ct, .slice aa x2.thn.length ca, .slice ae x2.els.length ce] from CmdM.imp (fun k hk => by
              have e1 : w3.heap.size ≤ k := hk.1
              have e2 : k < w4.heap.size := hk.2
              exact ⟨by omega, e2, fun e => by have := hrow3 k e.symm; omega⟩) (Keeps.refl _ _) _ _ _ (CmdM.both _ _ _ hT4))
            have hlen2 := cmd_len hT4
            have hone2 := cmd_one hT4
            have H2 := hid h2
            have H3 := hid h3
            have H4 := hid h4
            clear hR4 hB4 hT4 h2 h3 h4
            go_wp2_with (at_builtin; refine wpList_append_lies _ rfl _ _ 29 rfl W0.heap.size 35 i0 _ 12 192 Tryd.underlying29 hi hz0 hz1 hz2 rfl (by decide) (.slice a0 acc.length c0) acc.length css.flatten rfl (World.ownsRow.alloc h1 _) ⟨w4.heap.size, 0, none⟩ 1 1 [.int .i64 x2.kind, .slice ax x2.texts.length cx, .int .i64 x2.test.kind, .int .i64 x2.test.mat, .int .i64 x2.test.part, .slice an x2.test.names.length cn, .slice ak x2.test.keys.length ck, .bool x2.test.over, .int .i64 x2.test.limit, .slice at' x2.test.tests.length ct, .slice aa x2.thn.length ca, .slice ae x2.els.length ce] rfl rfl (eight _ _ _) hone2 (by omega) ?c3 ?c4 ?c5 _ rfl ?_)
            case c3 => unfold maxLen; omega
            case c4 => omega
            case c5 => simp; omega
            intro g cap w5 hown' hgrow hat hlt5
            have hgal : w4.grownBy w5 (Value.slice a0 acc.length c0).ownBlock := ⟨hgrow.os, hgrow.tape, hgrow.output, by have := hgrow.size; simp at this; omega, fun k hk hn => (hgrow.block k (by simp; omega) hn).trans (by
              show (w4.heap.push _)[k]? = _
              rw [Array.getElem?_push_lt hk, Array.getElem?_eq_getElem hk])⟩
            have HO5 := hid (show OwnCs W0.heap.size (L.length + 3) w5 (.slice (some ⟨g, 0, none⟩) (acc.length + 1) cap) (acc ++ [x2]) from
              OwnRow.more (firm_cmd (L.length + 3)) (v := .slice a0 acc.length c0) (H := w4.heap.size + 1) H2.out H3.out H4.out HX.out rfl hown' hgal (by
                rcases hat with e | e
                · exact .inl e.symm
                · exact .inr (by rw [e]; simp [Value.ownBlock])) (by omega))
            have hBb : Below W0.heap.size w4 w5 := ((Below.refl _ _).alloc hsz4 _).grown hgrow (by simp; omega) (fun j hj => (World.ownsRow.lt h1 j hj).1)
            have HR5 := hid (HR4.out.under hBb hbl)
            have HB5 := hid (HB4.out.low hBb)
            have HD := hid (show restS w.heap.size L.length w5 < restS w.heap.size L.length wr by rw [restS_is HR5.out, HM.out]; simp at hq2 ⊢; omega)
            clear hown' hgrow hBb h1 hgal hat
            go_wp2
            exact ⟨⟨acc ++ [x2], q2, some ⟨g, 0, none⟩, cap, m, by first | rfl | simp, by simpa using HO5.out, HR5.out, by simp at hq2 hqm; omega, by simp at hq2 hqn; omega, by simp at hq2 hacc ⊢; omega, HF, HB5.out⟩, HD.out⟩

theorem pcatch_idle (p q s : Addr) (w : World) :
    CallsD Tryd.prog 28 #[.pointer (some p), .pointer (some q), .pointer (some s)] .returning w fun e u' w' => e = .returned (.tuple #[]) ∧ u' = .returning ∧ w' = w := by
  refine callsD_of_wpS Tryd.func28 rfl fun c₀ cs hu => ?_
  have hnil : ∀ w : World, (binOp BinOp.neq 20 .nilIface .nilIface).run Tryd.prog w = .ok (.bool false) w := fun _ => by kernel_rfl
  apply wpS_seq
  apply wpS_region
  simp [wpOpsS, go_sem, recoverD, hu, Tryd.ntmps28, Exit.thenS]
  apply wpS_seq
  apply wpS_region
  simp [wpOpsS, go_sem, Exit.thenS, hnil]
  refine wpS_cond (t := false) (by simp [Act.eval, Array.replicate]) ?_
  simp only [Bool.false_eq_true, if_false]
  refine wpS_of_wp (wp_skip ?_)
  cases c₀
  simp_all [bodyPostS, results, Tryd.results28]

set_option maxHeartbeats 4000000 in
theorem pcatch_mis (b : Nat) (v : Value) (x y : Int) (pl : Nat) (er : Int) (w : World) (hp : w.cell? ⟨b, 0, none⟩ = some v) (hpf : w.frozen? ⟨b, 0, none⟩ = false) (hq : w.cell? ⟨b + 1, 0, none⟩ = some (.int .i64 x)) (hqf : w.frozen? ⟨b + 1, 0, none⟩ = false) (hs : w.cell? ⟨b + 1 + 1, 0, none⟩ = some (.int .i64 y)) (hsf : w.frozen? ⟨b + 1 + 1, 0, none⟩ = false) :
    CallsD Tryd.prog 28 #[.pointer (some ⟨b, 0, none⟩), .pointer (some ⟨b + 1, 0, none⟩), .pointer (some ⟨b + 1 + 1, 0, none⟩)] (.panicking [{ v := .iface 59 (misV pl er), recovered := false }]) w fun e u' w' =>
      e = .returned (.tuple #[]) ∧ u' = .panicking [{ v := .iface 59 (misV pl er), recovered := true }] ∧ w'.cell? ⟨b, 0, none⟩ = some (.slice none 0 0) ∧ w'.cell? ⟨b + 1, 0, none⟩ = some (.int .i64 pl) ∧ w'.cell? ⟨b + 1 + 1, 0, none⟩ = some (.int .i64 er) ∧ Below b w w' := by
  refine callsD_of_wpS Tryd.func28 rfl fun c₀ cs hu => ?_
  have hnil : ∀ w : World, (binOp BinOp.neq 20 (.iface 59 (misV pl er)) .nilIface).run Tryd.prog w = .ok (.bool true) w := fun _ => by kernel_rfl
  apply wpS_seq
  apply wpS_region
  simp [wpOpsS, go_sem, recoverD, hu, Tryd.ntmps28, Exit.thenS]
  apply wpS_seq
  apply wpS_region
  simp [wpOpsS, go_sem, Exit.thenS, hnil]
  refine wpS_cond (t := true) (by simp [Act.eval, Array.replicate]) ?_
  simp only [if_true]
  refine wpS_of_wp ?_
  have hass : ∀ w : World, (Instr.typeAssert (.iface 59 (misV pl er)) 20 59 false).run Tryd.prog w = .ok (.agg #[.int .i64 pl, .int .i64 er]) w := fun _ => by kernel_rfl
  have hl : b + 1 + 1 < w.heap.size := World.block_lt_of_cell? w _ hs
  have hl0 : b < w.heap.size := by omega
  have hl1 : b + 1 < w.heap.size := by omega
  have hn0 : b ≠ w.heap.size := by omega
  have hn1 : b + 1 ≠ w.heap.size := by omega
  have hn2 : b + 1 + 1 ≠ w.heap.size := by omega
  show Code.wp _ _ _ { tmps := #[.pointer (some ⟨b, 0, none⟩), .pointer (some ⟨b + 1, 0, none⟩), .pointer (some ⟨b + 1 + 1, 0, none⟩), .iface 59 (misV pl er), undef, .iface 59 (misV pl er), .iface 59 (misV pl er), .bool true, undef, undef, undef, undef, undef, undef], defers := [] } w
  clear hnil
  go_wp2
  go_region
  all_goals go_wp2
  have hp0 : (w.setCell ⟨b, 0, none⟩ (.slice none 0 0)).cell? ⟨b, 0, none⟩ = some (.slice none 0 0) := World.cell?_setCell_same' _ _ _ (by rw [hp]; rfl)
  have hq0 : ((w.setCell ⟨b, 0, none⟩ (.slice none 0 0)).setCell ⟨b + 1, 0, none⟩ (.int .i64 pl)).cell? ⟨b + 1, 0, none⟩ = some (.int .i64 pl) := World.cell?_setCell_same' _ _ _ (by rw [World.cell?_setCell_other _ _ _ _ (by simp), hq]; rfl)
  have hs0 : (((w.setCell ⟨b, 0, none⟩ (.slice none 0 0)).setCell ⟨b + 1, 0, none⟩ (.int .i64 pl)).setCell ⟨b + 1 + 1, 0, none⟩ (.int .i64 er)).cell? ⟨b + 1 + 1, 0, none⟩ = some (.int .i64 er) := World.cell?_setCell_same' _ _ _ (by rw [World.cell?_setCell_other _ _ _ _ (by simp), World.cell?_setCell_other _ _ _ _ (by simp), hs]; rfl)
  have hq1 : (((w.setCell ⟨b, 0, none⟩ (.slice none 0 0)).setCell ⟨b + 1, 0, none⟩ (.int .i64 pl)).setCell ⟨b + 1 + 1, 0, none⟩ (.int .i64 er)).cell? ⟨b + 1, 0, none⟩ = some (.int .i64 pl) := (World.cell?_setCell_other _ _ _ _ (by simp)).trans hq0
  have hp1 : (((w.setCell ⟨b, 0, none⟩ (.slice none 0 0)).setCell ⟨b + 1, 0, none⟩ (.int .i64 pl)).setCell ⟨b + 1 + 1, 0, none⟩ (.int .i64 er)).cell? ⟨b, 0, none⟩ = some (.slice none 0 0) := ((World.cell?_setCell_other _ _ _ _ (by simp)).trans (World.cell?_setCell_other _ _ _ _ (by simp))).trans hp0
  have hup : Below b w ((((w.setCell ⟨b, 0, none⟩ (.slice none 0 0)).setCell ⟨b + 1, 0, none⟩ (.int .i64 pl)).setCell ⟨b + 1 + 1, 0, none⟩ (.int .i64 er)).alloc (.cells #[.int .i64 pl, .int .i64 er] 59)).drew :=
    (((((Below.refl b w).setCell (p := ⟨b, 0, none⟩) (Nat.le_refl b) _).setCell (p := ⟨b + 1, 0, none⟩) (show b ≤ b + 1 by omega) _).setCell (p := ⟨b + 1 + 1, 0, none⟩) (show b ≤ b + 1 + 1 by omega) _).alloc (by simp [World.setCell]; omega) _).drew
  have hal : ∀ W : World, Below W.heap.size W ((W.alloc (.cells #[.int .i64 pl, .int .i64 er] 59)).drew) := fun W => ((Below.refl _ _).alloc (Nat.le_refl _) _).drew
  exact ⟨rfl, _, rfl, .tuple #[], by simp [results, Tryd.results28], rfl, rfl, wcell_next hp1 (hal _), wcell_next hq1 (hal _), wcell_next hs0 (hal _), hup⟩

theorem three (w : World) (o0 o1 o2 : Obj) : (((w.alloc o0).alloc o1).alloc o2).heap[w.heap.size]? = some o0 ∧ (((w.alloc o0).alloc o1).alloc o2).heap[w.heap.size + 1]? = some o1 ∧ (((w.alloc o0).alloc o1).alloc o2).heap[w.heap.size + 1 + 1]? = some o2 := by
  have h1 : (w.alloc o0).heap.size = w.heap.size + 1 := by simp
  have h2 : ((w.alloc o0).alloc o1).heap.size = w.heap.size + 1 + 1 := by simp
  refine ⟨?_, ?_, ?_⟩
  · rw [heap_low _ _ (by omega), heap_low _ _ (by omega)]; exact heap_alloc_new w o0
  · rw [heap_low _ _ (by omega), ← h1]; exact heap_alloc_new _ o1
  · rw [← h2]; exact heap_alloc_new _ o2
theorem stored3 {W : World} {b : Nat} {u0 u1 u2 : Value} (v0 v1 v2 : Value) (h0 : W.cell? ⟨b, 0, none⟩ = some u0) (h1 : W.cell? ⟨b + 1, 0, none⟩ = some u1) (h2 : W.cell? ⟨b + 1 + 1, 0, none⟩ = some u2) :
    (((W.setCell ⟨b, 0, none⟩ v0).setCell ⟨b + 1, 0, none⟩ v1).setCell ⟨b + 1 + 1, 0, none⟩ v2).cell? ⟨b, 0, none⟩ = some v0 ∧ (((W.setCell ⟨b, 0, none⟩ v0).setCell ⟨b + 1, 0, none⟩ v1).setCell ⟨b + 1 + 1, 0, none⟩ v2).cell? ⟨b + 1, 0, none⟩ = some v1 ∧ (((W.setCell ⟨b, 0, none⟩ v0).setCell ⟨b + 1, 0, none⟩ v1).setCell ⟨b + 1 + 1, 0, none⟩ v2).cell? ⟨b + 1 + 1, 0, none⟩ = some v2 ∧ Below b W (((W.setCell ⟨b, 0, none⟩ v0).setCell ⟨b + 1, 0, none⟩ v1).setCell ⟨b + 1 + 1, 0, none⟩ v2) := by
  have hp0 : (W.setCell ⟨b, 0, none⟩ v0).cell? ⟨b, 0, none⟩ = some v0 := World.cell?_setCell_same' _ _ _ (by rw [h0]; rfl)
  have hq0 : ((W.setCell ⟨b, 0, none⟩ v0).setCell ⟨b + 1, 0, none⟩ v1).cell? ⟨b + 1, 0, none⟩ = some v1 := World.cell?_setCell_same' _ _ _ (by rw [World.cell?_setCell_other _ _ _ _ (by simp), h1]; rfl)
  have hs0 : (((W.setCell ⟨b, 0, none⟩ v0).setCell ⟨b + 1, 0, none⟩ v1).setCell ⟨b + 1 + 1, 0, none⟩ v2).cell? ⟨b + 1 + 1, 0, none⟩ = some v2 := World.cell?_setCell_same' _ _ _ (by rw [World.cell?_setCell_other _ _ _ _ (by simp), World.cell?_setCell_other _ _ _ _ (by simp), h2]; rfl)
  exact ⟨((World.cell?_setCell_other _ _ _ _ (by simp)).trans (World.cell?_setCell_other _ _ _ _ (by simp))).trans hp0, (World.cell?_setCell_other _ _ _ _ (by simp)).trans hq0, hs0, (((Below.refl b W).setCell (p := ⟨b, 0, none⟩) (Nat.le_refl b) _).setCell (p := ⟨b + 1, 0, none⟩) (show b ≤ b + 1 by omega) _).setCell (p := ⟨b + 1 + 1, 0, none⟩) (show b ≤ b + 1 + 1 by omega) _⟩
/-- What script.Parse hands back. -/
def Parsed (w : World) (n : Nat) (o : List Cmd × Int × Int) (e : Ending) (w' : World) : Prop :=
  ∃ a c, e = .returned (.tuple #[.slice a o.1.length c, .int .i64 o.2.1, .int .i64 o.2.2]) ∧ CmdsM (newB w.heap.size) n w' (.slice a o.1.length c) o.1 ∧ Below w.heap.size w w'
theorem badTok_step {l : List Tok} {i : Nat} {t : Tok} (h : l[i]? = some t) (k : Nat) : badTok (l.drop i) k = if faultT t = 0 then badTok (l.drop (i + 1)) (k + 1) else some (k, faultT t) := by
  have hl := (List.getElem?_eq_some_iff.1 h).1
  rw [List.drop_eq_getElem_cons hl]
  rw [List.getElem?_eq_getElem hl] at h
  cases h
  rfl

set_option maxHeartbeats 8000000 in
set_option maxRecDepth 100000 in
theorem parse_any (A : Option Addr) (C : Nat) (L : List Tok) (w : World) (hL : ToksAt w A L) (hm : L.length ≤ maxLen) (ht : ∀ t ∈ L, t.kind = 1 ∨ t.kind = 2 → t.text.length ≤ maxLen) (hw : WordsAt w) :
    Calls Tryd.prog 16 #[.slice A L.length C] w (Parsed w (L.length + 3) (parseS L)) := by
  unfold maxLen at hm
  have hmf : ∀ (fn : Fn) (first cap : Array Value) (w : World), (Instr.makeFunc fn first cap).run Tryd.prog w = .ok (.func fn first cap) w := fun _ _ _ _ => rfl
  obtain ⟨W0, hW0⟩ : ∃ W0, W0 = ((w.alloc (.cells #[.slice none 0 0] 29)).alloc (.cells #[.int .i64 0] 3)).alloc (.cells #[.int .i64 0] 23) := ⟨_, rfl⟩
  have hB0 : Below w.heap.size w W0 := by rw [hW0]; exact (((Below.refl _ _).alloc (Nat.le_refl _) _).alloc (by simp) _).alloc (by simp; omega) _
  have hz0 : W0.heap.size = w.heap.size + 3 := by rw [hW0]; simp
  obtain ⟨t0, t1, t2⟩ := three w (.cells #[.slice none 0 0] 29) (.cells #[.int .i64 0] 3) (.cells #[.int .i64 0] 23)
  rw [← hW0] at t0 t1 t2
  have c0 : W0.cell? ⟨w.heap.size, 0, none⟩ = some (.slice none 0 0) := by rw [cell_of t0]; rfl
  have c1 : W0.cell? ⟨w.heap.size + 1, 0, none⟩ = some (.int .i64 0) := by rw [cell_of t1]; rfl
  have c2 : W0.cell? ⟨w.heap.size + 1 + 1, 0, none⟩ = some (.int .i64 0) := by rw [cell_of t2]; rfl
  have f0 : W0.frozen? ⟨w.heap.size, 0, none⟩ = false := free12 t0 0
  have f1 : W0.frozen? ⟨w.heap.size + 1, 0, none⟩ = false := free12 t1 0
  have f2 : W0.frozen? ⟨w.heap.size + 1 + 1, 0, none⟩ = false := free12 t2 0
  clear t0 t1 t2
  have HW : Hid _ := hW0
  have HL := hid hL
  have HWD := hid hw
  have HTX := hid ht
  clear hW0 hL hw ht
  by_cases hbig : 400 < L.length
  · have HM := hid (show parseS L = ([], 0, 5) by unfold parseS; rw [if_pos hbig])
    have hbig' : (400 : Int) < (L.length : Int) := by omega
    clear hbig
    go_enter_defers Tryd.func16, Tryd.ntmps16
    go_wp2
    refine ⟨.tuple #[.slice none 0 0, .int .i64 0, .int .i64 5], by simp [results, Tryd.results16, go_sem], ?_⟩
    rw [HM.out]
    exact ⟨none, 0, rfl, rowM_nil _ _ _ _ _ _, (((Below.refl _ _).alloc (Nat.le_refl _) _).alloc (by simp) _).alloc (by simp; omega) _⟩
  · have hbig' : ¬ (400 : Int) < (L.length : Int) := by omega
    have HP := hid (show parseS L = match badTok (L.drop 0) 0 with
        | some (i, e) => ([], (i : Int), e)
        | none => match scriptR L with
          | .ok (cs, _) => (cs, 0, 0)
          | .error (m, e) => ([], (L.length - m : Nat), e) by unfold parseS; rw [if_neg hbig]; rfl)
    go_enter_defers Tryd.func16, Tryd.ntmps16
    go_wp2
    rw [← HW.out]
    have HB0 := hid hB0
    have HC := hid (show ∀ W : World, Below W0.heap.size W0 W → W.cell? ⟨w.heap.size, 0, none⟩ = some (.slice none 0 0) ∧ W.cell? ⟨w.heap.size + 1, 0, none⟩ = some (.int .i64 0) ∧ W.cell? ⟨w.heap.size + 1 + 1, 0, none⟩ = some (.int .i64 0) ∧ W.frozen? ⟨w.heap.size, 0, none⟩ = false ∧ W.frozen? ⟨w.heap.size + 1, 0, none⟩ = false ∧ W.frozen? ⟨w.heap.size + 1 + 1, 0, none⟩ = false from
      fun W hb => ⟨wcell_next c0 hb, wcell_next c1 hb, wcell_next c2 hb, (hb.frozen (by simp [hz0])).trans f0, (hb.frozen (by simp [hz0])).trans f1, (hb.frozen (by simp [hz0])).trans f2⟩)
    clear c0 c1 c2 f0 f1 f2 hB0 hbig
    go_loopw [13] (fun v wr => ∃ i : Nat, i ≤ L.length ∧ v = .int .i64 i ∧ Hid (Below W0.heap.size W0 wr) ∧ Hid (parseS L = match badTok (L.drop i) i with
        | some (i, e) => ([], (i : Int), e)
        | none => match scriptR L with
          | .ok (cs, _) => (cs, 0, 0)
          | .error (m, e) => ([], (L.length - m : Nat), e))) (fun v _ => L.length - (intOf v).toNat)
    case atStart => exact ⟨0, Nat.zero_le _, rfl, Below.refl _ _, HP⟩
    case round =>
      obtain ⟨i, hi, rfl, HBw, hN⟩ := hrel
      by_cases hlt : i < L.length
      · have i1 : (i : Int) < (L.length : Int) := by omega
        have i3 : (0 : Int) ≤ (i : Int) := by omega
        obtain ⟨x, hx⟩ : ∃ x, L[i]? = some x := ⟨_, List.getElem?_eq_getElem hlt⟩
        obtain ⟨b, o, rfl, hbl, e0, e1, e2⟩ := (HL.out.below (HB0.out.trans (HBw.out.mono HB0.out.size))) i x hx
        have hxm : x ∈ L := List.mem_of_getElem? hx
        have HX := hid (HTX.out x hxm)
        have HN2 := hid (hN.out.trans (by rw [badTok_step hx]))
        have HCr := hid (HC.out wr HBw.out)
        have hal : Below wr.heap.size wr (wr.alloc (.cells #[.int .i64 x.kind, .string (S x.text), .int .i64 x.num] 44)) := (Below.refl _ _).alloc (Nat.le_refl _) _
        have HAL := hid hal
        clear hx hal hN hxm
        go_wp2_with fail
        refine (tcheck_w x _ HX.out).mono ?_
        rintro e w2 ⟨rfl, hb2⟩
        have hBr : Below wr.heap.size wr w2 := HAL.out.trans (hb2.mono HAL.out.size)
        have HB3 := hid (show Below W0.heap.size W0 w2 from HBw.out.trans (hBr.mono HBw.out.size))
        obtain ⟨y, hy⟩ : ∃ y, y = faultT x := ⟨_, rfl⟩
        rw [← hy]
        rw [← hy] at HN2
        clear hy hb2 hBr e0 e1 e2
        by_cases hy : y = 0
        · have HN4 := hid (HN2.out.trans (by rw [if_pos hy]))
          subst hy
          go_wp2
          exact ⟨⟨i + 1, by omega, by go_num, HB3, HN4⟩, by simp [intOf]; omega⟩
        · have HN4 := hid (show parseS L = ([], (i : Int), y) from HN2.out.trans (by rw [if_neg hy]))
          obtain ⟨c0, c1, c2, f0, f1, f2⟩ := HC.out w2 HB3.out
          go_wp2
          obtain ⟨m0, m1, m2, mB⟩ := stored3 (.slice none 0 0) (.int .i64 i) (.int .i64 y) c0 c1 c2
          refine ⟨.tuple #[.slice none 0 0, .int .i64 i, .int .i64 y], by simp only [results, Tryd.results16]; simp [go_sem, m0, m1, m2], ?_⟩
          rw [HN4.out]
          exact ⟨none, 0, rfl, rowM_nil _ _ _ _ _ _, (((HB0.out.trans (HB3.out.mono HB0.out.size)).setCell (p := ⟨w.heap.size, 0, none⟩) (Nat.le_refl _) _).setCell (p := ⟨w.heap.size + 1, 0, none⟩) (show w.heap.size ≤ w.heap.size + 1 by omega) _).setCell (p := ⟨w.heap.size + 1 + 1, 0, none⟩) (show w.heap.size ≤ w.heap.size + 1 + 1 by omega) _⟩
      · have i1 : ¬ (i : Int) < (L.length : Int) := by omega
        have HN2 := hid (show parseS L = match scriptR L with
          | .ok (cs, _) => (cs, 0, 0)
          | .error (m, e) => ([], (L.length - m : Nat), e) from hN.out.trans (by rw [List.drop_eq_nil_of_le (by omega)]; rfl))
        have hBw := HB0.out.trans (HBw.out.mono HB0.out.size)
        have HLr := hid (HL.out.below hBw)
        have HWr := hid (HWD.out.next hBw)
        have HBW := hid hBw
        clear hN hBw
        go_wp2_with fail
        refine (rscript_any A C L wr HLr.out (by omega) HWr.out).mono ?_
        cases hs : scriptR L with
        | error m =>
          obtain ⟨m, er⟩ := m
          have HM := hid (show parseS L = ([], ((L.length - m : Nat) : Int), er) from HN2.out.trans (by rw [hs]))
          clear hs
          rintro e w1 ⟨rfl, hb⟩
          obtain ⟨d0, d1, d2, g0, g1, g2⟩ := HC.out w1 (HBw.out.trans (hb.mono HBw.out.size))
          have HB1 := hid (HBW.out.trans (hb.mono HBW.out.size))
          clear hb
          refine leaves_cons (f := 28) (args := #[.pointer (some ⟨w.heap.size, 0, none⟩), .pointer (some ⟨w.heap.size + 1, 0, none⟩), .pointer (some ⟨w.heap.size + 1 + 1, 0, none⟩)]) (by simp) (by simp [go_sem]) ?_
          refine (pcatch_mis w.heap.size _ _ _ (L.length - m) er w1 d0 g0 d1 g1 d2 g2).mono ?_
          rintro e u' w2 ⟨rfl, rfl, k0, k1, k2, hb2⟩
          show ∃ v, (results Tryd.f16 _).run Tryd.prog _ = .ok v _ ∧ Parsed w _ _ (.returned v) _
          refine ⟨.tuple #[.slice none 0 0, .int .i64 (L.length - m : Nat), .int .i64 er], by simp [results, Tryd.results16, go_sem, k0, k1, k2], ?_⟩
          rw [HM.out]
          exact ⟨none, 0, rfl, rowM_nil _ _ _ _ _ _, HB1.out.trans hb2⟩
        | ok y =>
          obtain ⟨cs, q⟩ := y
          have HM := hid (show parseS L = (cs, 0, 0) from HN2.out.trans (by rw [hs]))
          clear hs
          rintro e w1 ⟨a, c, rfl, hA, hb⟩
          obtain ⟨d0, d1, d2, g0, g1, g2⟩ := HC.out w1 (HBw.out.trans (hb.mono HBw.out.size))
          have HB1 := hid (HBW.out.trans (hb.mono HBW.out.size))
          have hszr : w.heap.size + 3 ≤ wr.heap.size := by rw [← hz0]; exact HBw.out.size
          have HA := hid hA
          clear hb hA
          go_wp2
          refine leaves_cons (f := 28) (args := #[.pointer (some ⟨w.heap.size, 0, none⟩), .pointer (some ⟨w.heap.size + 1, 0, none⟩), .pointer (some ⟨w.heap.size + 1 + 1, 0, none⟩)]) (by simp) (by simp [go_sem]) ?_
          refine (pcatch_idle _ _ _ _).mono ?_
          rintro e u' w2 ⟨rfl, rfl, rfl⟩
          show ∃ v, (results Tryd.f16 _).run Tryd.prog _ = .ok v _ ∧ Parsed w _ _ (.returned v) _
          obtain ⟨m0, m1, m2, mB⟩ := stored3 (.slice a cs.length c) (.int .i64 0) (.int .i64 0) d0 d1 d2
          refine ⟨.tuple #[.slice a cs.length c, .int .i64 0, .int .i64 0], by simp only [results, Tryd.results16]; simp [go_sem, m0, m1, m2], ?_⟩
          rw [HM.out]
          have hup : ∀ k, newB wr.heap.size k → newB w.heap.size k := fun k hk => by have : wr.heap.size ≤ k := hk; show w.heap.size ≤ k; omega
          have hk : Keeps (newB wr.heap.size) w1 (((w1.setCell ⟨w.heap.size, 0, none⟩ (.slice a cs.length c)).setCell ⟨w.heap.size + 1, 0, none⟩ (.int .i64 0)).setCell ⟨w.heap.size + 1 + 1, 0, none⟩ (.int .i64 0)) :=
            ((Keeps.set w1 (p := ⟨w.heap.size, 0, none⟩) _ (fun k hk => by have : wr.heap.size ≤ k := hk; show k ≠ w.heap.size; omega)).trans (Keeps.set _ (p := ⟨w.heap.size + 1, 0, none⟩) _ (fun k hk => by have : wr.heap.size ≤ k := hk; show k ≠ w.heap.size + 1; omega))).trans (Keeps.set _ (p := ⟨w.heap.size + 1 + 1, 0, none⟩) _ (fun k hk => by have : wr.heap.size ≤ k := hk; show k ≠ w.heap.size + 1 + 1; omega))
          exact ⟨a, c, rfl, RowM.imp HA.out hup hk (fun _ _ h => CmdM.imp hup hk _ _ _ h), HB1.out.trans mB⟩
end Go.Proofs.YtnjlakengbhokaaDoor
