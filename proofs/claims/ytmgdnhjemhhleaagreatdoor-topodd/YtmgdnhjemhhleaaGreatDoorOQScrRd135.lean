/-
  What readScript and script.Parse do: the walks. A panic of the reader goes through the door, where it is recovered.
-/
import Derived.Test.YtmgdnhjemhhleaaGreatDoorOQScrRd112
import Derived.Defers
import Derived.Recover
import Derived.Tactics
import Derived.Tactics2
import Derived.Laws.Pointers
import Derived.Test.YtmgdnhjemhhleaaGreatDoorRows
set_option maxHeartbeats 8000000
set_option maxRecDepth 100000
namespace Go.Proofs.YtmgdnhjemhhleaaGreatDoor
open Go.RowKit Go.Proofs
def jbl (a : Option Addr) (n c : Nat) : Prop := n ≤ c ∧ (n = 0 → a = none ∧ c = 0)
def Sc (w : World) (L : List Tok) (x : Rdg (List Cmd)) (e : Ending) (w' : World) : Prop :=
 match x with
 | .ok (l, _) => ∃ a c, e = .returned (.slice a l.length c) ∧ CmdsM (newB w.heap.size) (L.length + 3) w' (.slice a l.length c) l ∧ Below w.heap.size w w' ∧ jbl a l.length c
 | .error m => e = .panicked (jgb L m) ∧ Below w.heap.size w w'
theorem But.lowB {b : Nat} {w w' : World} (h : But b w w') (hb : b ≤ w.heap.size) : Below b w w' := ⟨h.os, h.tape, h.output, h.size, fun k hk => h.block k (by omega) (by omega)⟩
theorem jfz (A : Option Addr) (C : Nat) (L : List Tok) (w : World) (hL : ToksAt w A L) (hsm : L.length ≤ 400) (hw : WordsAt w) :
 Calls Tryz.prog 96 #[.slice A L.length C] w (Sc w L (zZ L)) := by
 have hG := hw.pos; obtain ⟨W0, hW0⟩ : ∃ W0, W0 = w.alloc (.cells #[.slice A L.length C, .int .i64 0] 202) := ⟨_, rfl⟩; have hal : Below w.heap.size w W0 := by rw [hW0]; exact nb0 _ _
 have hbl : w.heap.size < W0.heap.size := by rw [hW0]; simp
 have HR0 := hid (show RdS W0 w.heap.size A C L L from ⟨by rw [hW0, heap_alloc_new]; simp, hL.below hal, fun i x hx q o ha => by
  obtain ⟨b, o', ha', hb, _⟩ := hL i x hx; rw [ha] at ha'; cases ha'; exact hb, ⟨[], rfl⟩, hsm⟩)
 have HW := hid (hw.next hal); have HAL := hid hal; have HWE := hid hW0; have HIH := hid (jjd (L.length + 2)).1; obtain ⟨i0, hi, hz0, hz1, hz2⟩ := info_parts jiz; have HL := hid (show zZ L = vL (cmdP (L.length + 2) true 0) L.length [] L from rfl); clear hL hw hW0 hal; go_enter Tryz.func96, Tryz.ntmps96; go_wp2; rw [← HWE.out]
 go_loopw [4] (fun v wr => ∃ (acc : List Cmd) (q : List Tok) (a0 : Option Addr) (c0 m : Nat), v = .slice a0 acc.length c0 ∧ OwnCs W0.heap.size (L.length + 3) wr (.slice a0 acc.length c0) acc ∧ RdS wr w.heap.size A C L q ∧ q.length ≤ m ∧ q.length ≤ L.length ∧ acc.length + q.length ≤ 401 ∧
  Hid (zZ L = vL (cmdP (L.length + 2) true 0) m acc q) ∧ But w.heap.size W0 wr ∧ Hid (jbl a0 acc.length c0)) (fun _ wr => vJ w.heap.size L.length wr)
 case atStart => exact ⟨[], L, none, 0, L.length, rfl, OwnRow.nil _ _ _ _ _, HR0.out, Nat.le_refl _, Nat.le_refl _, by simp; omega, HL, But.refl _ _, ⟨Nat.le_refl _, fun _ => ⟨rfl, rfl⟩⟩⟩
 case round =>
  obtain ⟨acc, q, a0, c0, m, rfl, hO, hRr, hqm, hqn, hacc, hN, hBr, HRY⟩ := hrel; have HO := hid hO; have HRr := hid hRr; have HBr := hid hBr; have HM := hid (zN hRr); have hszr := hBr.size; clear hO hRr hBr; go_wp2_with fail; refine (jc2 w.heap.size A C L q wr HRr.out).mono ?_; rintro e w3 ⟨rfl, hb3⟩; have HR3 := hid (HRr.out.next hb3); have HB3 := hid (HBr.out.trans (But.of hb3)); have HO3 := hid (HO.out.keep (zM (L.length + 3)) (But.of hb3) hbl); have HW3 := hid (HW.out.but HB3.out hG); clear hb3; cases q with
  | nil =>
    have HF := hid (show zZ L = .ok (acc, []) by rw [hN.out]; cases m <;> rfl); have HV := hid (show CmdsM (newB w.heap.size) (L.length + 3) w3 (.slice a0 acc.length c0) acc from by
     have := HO3.out.rowM (zM (L.length + 3)) (by unfold maxLen; omega); have hup : ∀ k, newB' W0.heap.size k → newB w.heap.size k := fun k hk => by have : W0.heap.size ≤ k := hk; show w.heap.size ≤ k; omega
     exact RowM.imp this hup (Keeps.refl _ _) (fun _ _ h => CmdM.imp hup (Keeps.refl _ _) _ _ _ h))
    simp only [List.isEmpty]; go_wp2; go_ret; rw [HF.out]; exact ⟨_, _, rfl, HV.out, HAL.out.trans (HB3.out.lowB (Nat.le_of_lt hbl)), HRY.out⟩
  | cons t q =>
   obtain ⟨m, rfl⟩ : ∃ m', m = m' + 1 := ⟨m - 1, by simp at hqm; omega⟩; have HE := hid (show zZ L = jm (cmdP (L.length + 2) true 0 (t :: q)) fun c q => vL (cmdP (L.length + 2) true 0) m (acc ++ [c]) q by rw [hN.out, jhB]); simp only [List.isEmpty]; go_wp2_with fail; refine (HIH.out 0 w.heap.size A C L (t :: q) w3 HR3.out HW3.out hG (by omega) (by omega)).mono ?_; cases ht : cmdP (L.length + 2) true 0 (t :: q) with
   | error mm =>
     have HF := hid (show zZ L = .error mm by rw [HE.out, ht]; rfl); clear ht; rintro e w4 ⟨rfl, hB4⟩; have HB4 := hid (HB3.out.trans hB4); clear hB4; go_wp2; rw [HF.out]; exact ⟨rfl, rfl, HAL.out.trans (HB4.out.lowB (Nat.le_of_lt hbl))⟩
   | ok y =>
     obtain ⟨x2, q2⟩ := y; have hq2 := jdk _ _ _ _ _ _ ht; have HF := hid (show zZ L = vL (cmdP (L.length + 2) true 0) m (acc ++ [x2]) q2 by rw [HE.out, ht]; rfl); clear ht; rintro e w4 ⟨v, rfl, ⟨cs2, rfl, hT4⟩, hR4, hB4⟩; obtain ⟨ax, cx, an, cn, ak, ck, at', ct, aa, ca, ae, ce, m02, _, rfl, _⟩ := zA hT4; have HR4 := hid hR4; have HB4 := hid (HB3.out.trans hB4); obtain ⟨css, h1, h2, h3, h4⟩ := HO3.out.keep (zM (L.length + 3)) hB4 hbl; have hrow3 : ∀ k, (Value.slice a0 acc.length c0).ownBlock = some k → k < w3.heap.size := fun k hk => by
      obtain ⟨_, g1, _⟩ := HO3.out; exact (World.ownsRow.lt g1 k hk).2
     have hsz4 := HB4.out.size; have hsz34 := hB4.size; have hsz3 := HB3.out.size; have HX := hid (show CmdM (rowQ W0.heap.size w4 (.slice a0 acc.length c0)) (L.length + 3) w4 x2 [.int .i64 x2.kind, .slice ax x2.texts.length cx, .int .i64 x2.test.kind, .int .i64 x2.test.mat, .int .i64 x2.test.part, .slice an x2.test.names.length cn, .slice ak x2.test.keys.length ck, .bool x2.test.over, .int .i64 x2.test.limit, .slice at' x2.test.tests.length ct, .slice aa x2.thn.length ca, .slice ae x2.els.length ce] from CmdM.imp (fun k hk => by
      have e1 : w3.heap.size ≤ k := hk.1; have e2 : k < w4.heap.size := hk.2; exact ⟨by omega, e2, fun e => by have := hrow3 k e.symm; omega⟩) (Keeps.refl _ _) _ _ _ (CmdM.both _ _ _ hT4))
     have hlen2 := jh1 hT4; have hone2 := jh2 hT4; have H2 := hid h2; have H3 := hid h3; have H4 := hid h4; clear hR4 hB4 hT4 h2 h3 h4
     go_wp2_with (at_builtin; refine wpList_append_lies _ rfl _ _ 101 rfl W0.heap.size 207 i0 _ 12 192 Tryz.underlying101 hi hz0 hz1 hz2 rfl (by decide) (.slice a0 acc.length c0) acc.length css.flatten rfl (World.ownsRow.alloc h1 _) ⟨w4.heap.size, 0, none⟩ 1 1 [.int .i64 x2.kind, .slice ax x2.texts.length cx, .int .i64 x2.test.kind, .int .i64 x2.test.mat, .int .i64 x2.test.part, .slice an x2.test.names.length cn, .slice ak x2.test.keys.length ck, .bool x2.test.over, .int .i64 x2.test.limit, .slice at' x2.test.tests.length ct, .slice aa x2.thn.length ca, .slice ae x2.els.length ce] rfl rfl (jl9 _ _ _) hone2 (by omega) ?c3 ?c4 ?c5 _ rfl ?_)
     case c3 => unfold maxLen; omega
     case c4 => omega
     case c5 => simp; omega
     intro g cap w5 hown' hgrow hat hlt5; have hgal : w4.grownBy w5 (Value.slice a0 acc.length c0).ownBlock := ⟨hgrow.os, hgrow.tape, hgrow.output, by have := hgrow.size; simp at this; omega, fun k hk hn => (hgrow.block k (by simp; omega) hn).trans (by
      show (w4.heap.push _)[k]? = _
      rw [Array.getElem?_push_lt hk, Array.getElem?_eq_getElem hk])⟩
     have HO5 := hid (show OwnCs W0.heap.size (L.length + 3) w5 (.slice (some ⟨g, 0, none⟩) (acc.length + 1) cap) (acc ++ [x2]) from
      OwnRow.more (zM (L.length + 3)) (v := .slice a0 acc.length c0) (H := w4.heap.size + 1) H2.out H3.out H4.out HX.out rfl hown' hgal (by
       rcases hat with e | e
       · exact .inl e.symm
       · exact .inr (by rw [e]; simp [Value.ownBlock])) (by omega))
     have hBb : Below W0.heap.size w4 w5 := ((Below.refl _ _).alloc hsz4 _).grown hgrow (by simp; omega) (fun j hj => (World.ownsRow.lt h1 j hj).1); have HR5 := hid (HR4.out.under hBb hbl); have HB5 := hid (HB4.out.low hBb); have HD := hid (show vJ w.heap.size L.length w5 < vJ w.heap.size L.length wr by rw [zN HR5.out, HM.out]; simp at hq2 ⊢; omega); have HRZ := hid (show jbl (some ⟨g, 0, none⟩) (acc ++ [x2]).length cap from ⟨by
      rw [List.length_append]
      rcases hown'.2 with ⟨e, _⟩ | ⟨_, _, _, e, _, _, e2, _⟩
      · cases e
      · simp only [Value.slice.injEq] at e; simp; omega, fun h => by simp at h⟩)
     clear hown' hgrow hBb h1 hgal hat; go_wp2; exact ⟨⟨acc ++ [x2], q2, some ⟨g, 0, none⟩, cap, m, by first | rfl | simp, by simpa using HO5.out, HR5.out, by simp at hq2 hqm; omega, by simp at hq2 hqn; omega, by simp at hq2 hacc ⊢; omega, HF, HB5.out, HRZ⟩, HD.out⟩
theorem jfw (p q s : Addr) (w : World) :
 CallsD Tryz.prog 95 #[.pointer (some p), .pointer (some q), .pointer (some s)] .returning w fun e u' w' => e = .returned (.tuple #[]) ∧ u' = .returning ∧ w' = w := by
 refine callsD_of_wpS Tryz.func95 rfl fun c₀ cs hu => ?_
 have hnil : ∀ w : World, (binOp BinOp.neq 20 .nilIface .nilIface).run Tryz.prog w = .ok (.bool false) w := fun _ => by kernel_rfl
 apply wpS_seq
 apply wpS_region
 simp [wpOpsS, go_sem, recoverD, hu, Tryz.ntmps95, Exit.thenS]
 apply wpS_seq
 apply wpS_region
 simp [wpOpsS, go_sem, Exit.thenS, hnil]
 refine wpS_cond (t := false) (by simp [Act.eval, Array.replicate]) ?_; simp only [Bool.false_eq_true, if_false]; refine wpS_of_wp (wp_skip ?_); cases c₀
 simp_all [bodyPostS, results, Tryz.results95]
theorem jhp (b : Nat) (v : Value) (x y : Int) (pl : Nat) (er : Int) (w : World) (hp : w.cell? ⟨b, 0, none⟩ = some v) (hpf : w.frozen? ⟨b, 0, none⟩ = false) (hq : w.cell? ⟨b + 1, 0, none⟩ = some (.int .i64 x)) (hqf : w.frozen? ⟨b + 1, 0, none⟩ = false) (hs : w.cell? ⟨b + 1 + 1, 0, none⟩ = some (.int .i64 y)) (hsf : w.frozen? ⟨b + 1 + 1, 0, none⟩ = false) :
 CallsD Tryz.prog 95 #[.pointer (some ⟨b, 0, none⟩), .pointer (some ⟨b + 1, 0, none⟩), .pointer (some ⟨b + 1 + 1, 0, none⟩)] (.panicking [{ v := .iface 169 (misV pl er), recovered := false }]) w fun e u' w' =>
  e = .returned (.tuple #[]) ∧ u' = .panicking [{ v := .iface 169 (misV pl er), recovered := true }] ∧ w'.cell? ⟨b, 0, none⟩ = some (.slice none 0 0) ∧ w'.cell? ⟨b + 1, 0, none⟩ = some (.int .i64 pl) ∧ w'.cell? ⟨b + 1 + 1, 0, none⟩ = some (.int .i64 er) ∧ Below b w w' := by
 refine callsD_of_wpS Tryz.func95 rfl fun c₀ cs hu => ?_
 have hnil : ∀ w : World, (binOp BinOp.neq 20 (.iface 169 (misV pl er)) .nilIface).run Tryz.prog w = .ok (.bool true) w := fun _ => by kernel_rfl
 apply wpS_seq
 apply wpS_region
 simp [wpOpsS, go_sem, recoverD, hu, Tryz.ntmps95, Exit.thenS]
 apply wpS_seq
 apply wpS_region
 simp [wpOpsS, go_sem, Exit.thenS, hnil]
 refine wpS_cond (t := true) (by simp [Act.eval, Array.replicate]) ?_; simp only [if_true]; refine wpS_of_wp ?_; have hass : ∀ w : World, (Instr.typeAssert (.iface 169 (misV pl er)) 20 169 false).run Tryz.prog w = .ok (.agg #[.int .i64 pl, .int .i64 er]) w := fun _ => by kernel_rfl
 have hl : b + 1 + 1 < w.heap.size := World.block_lt_of_cell? w _ hs; have hl0 : b < w.heap.size := by omega
 have hl1 : b + 1 < w.heap.size := by omega
 have hn0 : b ≠ w.heap.size := by omega
 have hn1 : b + 1 ≠ w.heap.size := by omega
 have hn2 : b + 1 + 1 ≠ w.heap.size := by omega
 show Code.wp _ _ _ { tmps := #[.pointer (some ⟨b, 0, none⟩), .pointer (some ⟨b + 1, 0, none⟩), .pointer (some ⟨b + 1 + 1, 0, none⟩), .iface 169 (misV pl er), undef, .iface 169 (misV pl er), .iface 169 (misV pl er), .bool true, undef, undef, undef, undef, undef, undef], defers := [] } w
 clear hnil; go_wp2
 go_region
 all_goals go_wp2
 have hp0 : (w.setCell ⟨b, 0, none⟩ (.slice none 0 0)).cell? ⟨b, 0, none⟩ = some (.slice none 0 0) := World.cell?_setCell_same' _ _ _ (by rw [hp]; rfl); have hq0 : ((w.setCell ⟨b, 0, none⟩ (.slice none 0 0)).setCell ⟨b + 1, 0, none⟩ (.int .i64 pl)).cell? ⟨b + 1, 0, none⟩ = some (.int .i64 pl) := World.cell?_setCell_same' _ _ _ (by rw [World.cell?_setCell_other _ _ _ _ (by simp), hq]; rfl); have hs0 : (((w.setCell ⟨b, 0, none⟩ (.slice none 0 0)).setCell ⟨b + 1, 0, none⟩ (.int .i64 pl)).setCell ⟨b + 1 + 1, 0, none⟩ (.int .i64 er)).cell? ⟨b + 1 + 1, 0, none⟩ = some (.int .i64 er) := World.cell?_setCell_same' _ _ _ (by rw [World.cell?_setCell_other _ _ _ _ (by simp), World.cell?_setCell_other _ _ _ _ (by simp), hs]; rfl); have hq1 : (((w.setCell ⟨b, 0, none⟩ (.slice none 0 0)).setCell ⟨b + 1, 0, none⟩ (.int .i64 pl)).setCell ⟨b + 1 + 1, 0, none⟩ (.int .i64 er)).cell? ⟨b + 1, 0, none⟩ = some (.int .i64 pl) := (World.cell?_setCell_other _ _ _ _ (by simp)).trans hq0; have hp1 : (((w.setCell ⟨b, 0, none⟩ (.slice none 0 0)).setCell ⟨b + 1, 0, none⟩ (.int .i64 pl)).setCell ⟨b + 1 + 1, 0, none⟩ (.int .i64 er)).cell? ⟨b, 0, none⟩ = some (.slice none 0 0) := ((World.cell?_setCell_other _ _ _ _ (by simp)).trans (World.cell?_setCell_other _ _ _ _ (by simp))).trans hp0; have hup : Below b w ((((w.setCell ⟨b, 0, none⟩ (.slice none 0 0)).setCell ⟨b + 1, 0, none⟩ (.int .i64 pl)).setCell ⟨b + 1 + 1, 0, none⟩ (.int .i64 er)).alloc (.cells #[.int .i64 pl, .int .i64 er] 169)).drew :=
  (((((Below.refl b w).setCell (p := ⟨b, 0, none⟩) (Nat.le_refl b) _).setCell (p := ⟨b + 1, 0, none⟩) (show b ≤ b + 1 by omega) _).setCell (p := ⟨b + 1 + 1, 0, none⟩) (show b ≤ b + 1 + 1 by omega) _).alloc (by simp [World.setCell]; omega) _).drew
 have hal : ∀ W : World, Below W.heap.size W ((W.alloc (.cells #[.int .i64 pl, .int .i64 er] 169)).drew) := fun W => (nb0 _ _).drew
 exact ⟨rfl, _, rfl, .tuple #[], by simp [results, Tryz.results95], rfl, rfl, ja hp1 (hal _), ja hq1 (hal _), ja hs0 (hal _), hup⟩
theorem jld (w : World) (o0 o1 o2 : Obj) : (((w.alloc o0).alloc o1).alloc o2).heap[w.heap.size]? = some o0 ∧ (((w.alloc o0).alloc o1).alloc o2).heap[w.heap.size + 1]? = some o1 ∧ (((w.alloc o0).alloc o1).alloc o2).heap[w.heap.size + 1 + 1]? = some o2 := by
 have h1 : (w.alloc o0).heap.size = w.heap.size + 1 := by simp
 have h2 : ((w.alloc o0).alloc o1).heap.size = w.heap.size + 1 + 1 := by simp
 refine ⟨?_, ?_, ?_⟩
 · rw [jbx _ _ (by omega), jbx _ _ (by omega)]; exact heap_alloc_new w o0
 · rw [jbx _ _ (by omega), ← h1]; exact heap_alloc_new _ o1
 · rw [← h2]; exact heap_alloc_new _ o2
theorem jjq {W : World} {b : Nat} {u0 u1 u2 : Value} (v0 v1 v2 : Value) (h0 : W.cell? ⟨b, 0, none⟩ = some u0) (h1 : W.cell? ⟨b + 1, 0, none⟩ = some u1) (h2 : W.cell? ⟨b + 1 + 1, 0, none⟩ = some u2) :
 (((W.setCell ⟨b, 0, none⟩ v0).setCell ⟨b + 1, 0, none⟩ v1).setCell ⟨b + 1 + 1, 0, none⟩ v2).cell? ⟨b, 0, none⟩ = some v0 ∧ (((W.setCell ⟨b, 0, none⟩ v0).setCell ⟨b + 1, 0, none⟩ v1).setCell ⟨b + 1 + 1, 0, none⟩ v2).cell? ⟨b + 1, 0, none⟩ = some v1 ∧ (((W.setCell ⟨b, 0, none⟩ v0).setCell ⟨b + 1, 0, none⟩ v1).setCell ⟨b + 1 + 1, 0, none⟩ v2).cell? ⟨b + 1 + 1, 0, none⟩ = some v2 ∧ Below b W (((W.setCell ⟨b, 0, none⟩ v0).setCell ⟨b + 1, 0, none⟩ v1).setCell ⟨b + 1 + 1, 0, none⟩ v2) := by
 have hp0 : (W.setCell ⟨b, 0, none⟩ v0).cell? ⟨b, 0, none⟩ = some v0 := World.cell?_setCell_same' _ _ _ (by rw [h0]; rfl); have hq0 : ((W.setCell ⟨b, 0, none⟩ v0).setCell ⟨b + 1, 0, none⟩ v1).cell? ⟨b + 1, 0, none⟩ = some v1 := World.cell?_setCell_same' _ _ _ (by rw [World.cell?_setCell_other _ _ _ _ (by simp), h1]; rfl); have hs0 : (((W.setCell ⟨b, 0, none⟩ v0).setCell ⟨b + 1, 0, none⟩ v1).setCell ⟨b + 1 + 1, 0, none⟩ v2).cell? ⟨b + 1 + 1, 0, none⟩ = some v2 := World.cell?_setCell_same' _ _ _ (by rw [World.cell?_setCell_other _ _ _ _ (by simp), World.cell?_setCell_other _ _ _ _ (by simp), h2]; rfl); exact ⟨((World.cell?_setCell_other _ _ _ _ (by simp)).trans (World.cell?_setCell_other _ _ _ _ (by simp))).trans hp0, (World.cell?_setCell_other _ _ _ _ (by simp)).trans hq0, hs0, (((Below.refl b W).setCell (p := ⟨b, 0, none⟩) (Nat.le_refl b) _).setCell (p := ⟨b + 1, 0, none⟩) (show b ≤ b + 1 by omega) _).setCell (p := ⟨b + 1 + 1, 0, none⟩) (show b ≤ b + 1 + 1 by omega) _⟩
theorem jaK : jbl none 0 0 := ⟨Nat.le_refl _, fun _ => ⟨rfl, rfl⟩⟩
def jeT (w : World) (n : Nat) (o : List Cmd × Int × Int) (e : Ending) (w' : World) : Prop :=
 ∃ a c, e = .returned (.tuple #[.slice a o.1.length c, .int .i64 o.2.1, .int .i64 o.2.2]) ∧ CmdsM (newB w.heap.size) n w' (.slice a o.1.length c) o.1 ∧ Below w.heap.size w w' ∧ jbl a o.1.length c
theorem jeY {l : List Tok} {i : Nat} {t : Tok} (h : l[i]? = some t) (k : Nat) : jcJ (l.drop i) k = if qe t = 0 then jcJ (l.drop (i + 1)) (k + 1) else some (k, qe t) := by
 have hl := (List.getElem?_eq_some_iff.1 h).1; rw [List.drop_eq_getElem_cons hl]; rw [List.getElem?_eq_getElem hl] at h; cases h; rfl
theorem jhn (A : Option Addr) (C : Nat) (L : List Tok) (w : World) (hL : ToksAt w A L) (hm : L.length ≤ maxLen) (ht : ∀ t ∈ L, t.kind = 1 ∨ t.kind = 2 → t.text.length ≤ maxLen) (hw : WordsAt w) :
 Calls Tryz.prog 66 #[.slice A L.length C] w (jeT w (L.length + 3) (jX L)) := by
 unfold maxLen at hm; have hmf : ∀ (fn : Fn) (first cap : Array Value) (w : World), (Instr.makeFunc fn first cap).run Tryz.prog w = .ok (.func fn first cap) w := fun _ _ _ _ => rfl
 obtain ⟨W0, hW0⟩ : ∃ W0, W0 = ((w.alloc (.cells #[.slice none 0 0] 101)).alloc (.cells #[.int .i64 0] 3)).alloc (.cells #[.int .i64 0] 40) := ⟨_, rfl⟩; have hB0 : Below w.heap.size w W0 := by rw [hW0]; exact ((nb0 _ _).alloc (by simp) _).alloc (by simp; omega) _
 have hz0 : W0.heap.size = w.heap.size + 3 := by rw [hW0]; simp
 obtain ⟨t0, t1, t2⟩ := jld w (.cells #[.slice none 0 0] 101) (.cells #[.int .i64 0] 3) (.cells #[.int .i64 0] 40); rw [← hW0] at t0 t1 t2; have c0 : W0.cell? ⟨w.heap.size, 0, none⟩ = some (.slice none 0 0) := by rw [je5 t0]; rfl
 have c1 : W0.cell? ⟨w.heap.size + 1, 0, none⟩ = some (.int .i64 0) := by rw [je5 t1]; rfl
 have c2 : W0.cell? ⟨w.heap.size + 1 + 1, 0, none⟩ = some (.int .i64 0) := by rw [je5 t2]; rfl
 have f0 : W0.frozen? ⟨w.heap.size, 0, none⟩ = false := qw t0 0; have f1 : W0.frozen? ⟨w.heap.size + 1, 0, none⟩ = false := qw t1 0; have f2 : W0.frozen? ⟨w.heap.size + 1 + 1, 0, none⟩ = false := qw t2 0; clear t0 t1 t2; have HW : Hid _ := hW0; have HL := hid hL; have HWD := hid hw; have HTX := hid ht; clear hW0 hL hw ht
 by_cases hbig : 400 < L.length
 · have HM := hid (show jX L = ([], 0, 5) by unfold jX; rw [if_pos hbig]); have hbig' : (400 : Int) < (L.length : Int) := by omega
   clear hbig
   go_enter_defers Tryz.func66, Tryz.ntmps66
   go_wp2; refine ⟨.tuple #[.slice none 0 0, .int .i64 0, .int .i64 5], by simp [results, Tryz.results66, go_sem], ?_⟩; rw [HM.out]; exact ⟨none, 0, rfl, jg _ _ _ _ _ _, ((nb0 _ _).alloc (by simp) _).alloc (by simp; omega) _, jaK⟩
 · have hbig' : ¬ (400 : Int) < (L.length : Int) := by omega
   have HP := hid (show jX L = match jcJ (L.drop 0) 0 with
        | some (i, e) => ([], (i : Int), e)
        | none => match zZ L with
          | .ok (cs, _) => (cs, 0, 0)
          | .error (m, e) => ([], (L.length - m : Nat), e) by unfold jX; rw [if_neg hbig]; rfl)
   go_enter_defers Tryz.func66, Tryz.ntmps66
   go_wp2; rw [← HW.out]; have HB0 := hid hB0; have HC := hid (show ∀ W : World, Below W0.heap.size W0 W → W.cell? ⟨w.heap.size, 0, none⟩ = some (.slice none 0 0) ∧ W.cell? ⟨w.heap.size + 1, 0, none⟩ = some (.int .i64 0) ∧ W.cell? ⟨w.heap.size + 1 + 1, 0, none⟩ = some (.int .i64 0) ∧ W.frozen? ⟨w.heap.size, 0, none⟩ = false ∧ W.frozen? ⟨w.heap.size + 1, 0, none⟩ = false ∧ W.frozen? ⟨w.heap.size + 1 + 1, 0, none⟩ = false from
    fun W hb => ⟨ja c0 hb, ja c1 hb, ja c2 hb, (hb.frozen (by simp [hz0])).trans f0, (hb.frozen (by simp [hz0])).trans f1, (hb.frozen (by simp [hz0])).trans f2⟩)
   clear c0 c1 c2 f0 f1 f2 hB0 hbig
   go_loopw [13] (fun v wr => ∃ i : Nat, i ≤ L.length ∧ v = .int .i64 i ∧ Hid (Below W0.heap.size W0 wr) ∧ Hid (jX L = match jcJ (L.drop i) i with
        | some (i, e) => ([], (i : Int), e)
        | none => match zZ L with
          | .ok (cs, _) => (cs, 0, 0)
          | .error (m, e) => ([], (L.length - m : Nat), e))) (fun v _ => L.length - (intOf v).toNat)
   case atStart => exact ⟨0, Nat.zero_le _, rfl, Below.refl _ _, HP⟩
   case round =>
    obtain ⟨i, hi, rfl, HBw, hN⟩ := hrel
    by_cases hlt : i < L.length
    · have i1 : (i : Int) < (L.length : Int) := by omega
      have i3 : (0 : Int) ≤ (i : Int) := by omega
      obtain ⟨x, hx⟩ : ∃ x, L[i]? = some x := ⟨_, List.getElem?_eq_getElem hlt⟩; obtain ⟨b, o, rfl, hbl, e0, e1, e2⟩ := (HL.out.below (HB0.out.trans (HBw.out.mono HB0.out.size))) i x hx; have hxm : x ∈ L := List.mem_of_getElem? hx; have HX := hid (HTX.out x hxm); have HN2 := hid (hN.out.trans (by rw [jeY hx])); have HCr := hid (HC.out wr HBw.out); have hal : Below wr.heap.size wr (wr.alloc (.cells #[.int .i64 x.kind, .string (S x.text), .int .i64 x.num] 164)) := nb0 _ _; have HAL := hid hal; clear hx hal hN hxm; go_wp2_with fail; refine (jk8 x _ HX.out).mono ?_; rintro e w2 ⟨rfl, hb2⟩; have hBr : Below wr.heap.size wr w2 := HAL.out.trans (hb2.mono HAL.out.size); have HB3 := hid (show Below W0.heap.size W0 w2 from HBw.out.trans (hBr.mono HBw.out.size)); obtain ⟨y, hy⟩ : ∃ y, y = qe x := ⟨_, rfl⟩; rw [← hy]; rw [← hy] at HN2; clear hy hb2 hBr e0 e1 e2
      by_cases hy : y = 0
      · have HN4 := hid (HN2.out.trans (by rw [if_pos hy])); subst hy; go_wp2; exact ⟨⟨i + 1, by omega, by go_num, HB3, HN4⟩, by simp [intOf]; omega⟩
      · have HN4 := hid (show jX L = ([], (i : Int), y) from HN2.out.trans (by rw [if_neg hy])); obtain ⟨c0, c1, c2, f0, f1, f2⟩ := HC.out w2 HB3.out; go_wp2; obtain ⟨m0, m1, m2, mB⟩ := jjq (.slice none 0 0) (.int .i64 i) (.int .i64 y) c0 c1 c2; refine ⟨.tuple #[.slice none 0 0, .int .i64 i, .int .i64 y], by simp only [results, Tryz.results66]; simp [go_sem, m0, m1, m2], ?_⟩; rw [HN4.out]; exact ⟨none, 0, rfl, jg _ _ _ _ _ _, (((HB0.out.trans (HB3.out.mono HB0.out.size)).setCell (p := ⟨w.heap.size, 0, none⟩) (Nat.le_refl _) _).setCell (p := ⟨w.heap.size + 1, 0, none⟩) (show w.heap.size ≤ w.heap.size + 1 by omega) _).setCell (p := ⟨w.heap.size + 1 + 1, 0, none⟩) (show w.heap.size ≤ w.heap.size + 1 + 1 by omega) _, jaK⟩
    · have i1 : ¬ (i : Int) < (L.length : Int) := by omega
      have HN2 := hid (show jX L = match zZ L with
       | .ok (cs, _) => (cs, 0, 0)
       | .error (m, e) => ([], (L.length - m : Nat), e) from hN.out.trans (by rw [List.drop_eq_nil_of_le (by omega)]; rfl))
      have hBw := HB0.out.trans (HBw.out.mono HB0.out.size); have HLr := hid (HL.out.below hBw); have HWr := hid (HWD.out.next hBw); have HBW := hid hBw; clear hN hBw; go_wp2_with fail; refine (jfz A C L wr HLr.out (by omega) HWr.out).mono ?_; cases hs : zZ L with
      | error m =>
        obtain ⟨m, er⟩ := m; have HM := hid (show jX L = ([], ((L.length - m : Nat) : Int), er) from HN2.out.trans (by rw [hs])); clear hs; rintro e w1 ⟨rfl, hb⟩; obtain ⟨d0, d1, d2, g0, g1, g2⟩ := HC.out w1 (HBw.out.trans (hb.mono HBw.out.size)); have HB1 := hid (HBW.out.trans (hb.mono HBW.out.size)); clear hb; refine leaves_cons (f := 95) (args := #[.pointer (some ⟨w.heap.size, 0, none⟩), .pointer (some ⟨w.heap.size + 1, 0, none⟩), .pointer (some ⟨w.heap.size + 1 + 1, 0, none⟩)]) (by simp) (by simp [go_sem]) ?_; refine (jhp w.heap.size _ _ _ (L.length - m) er w1 d0 g0 d1 g1 d2 g2).mono ?_; rintro e u' w2 ⟨rfl, rfl, k0, k1, k2, hb2⟩
        show ∃ v, (results Tryz.f66 _).run Tryz.prog _ = .ok v _ ∧ jeT w _ _ (.returned v) _
        refine ⟨.tuple #[.slice none 0 0, .int .i64 (L.length - m : Nat), .int .i64 er], by simp [results, Tryz.results66, go_sem, k0, k1, k2], ?_⟩; rw [HM.out]; exact ⟨none, 0, rfl, jg _ _ _ _ _ _, HB1.out.trans hb2, jaK⟩
      | ok y =>
        obtain ⟨cs, q⟩ := y; have HM := hid (show jX L = (cs, 0, 0) from HN2.out.trans (by rw [hs])); clear hs; rintro e w1 ⟨a, c, rfl, hA, hb, hry⟩; have HRY := hid hry; obtain ⟨d0, d1, d2, g0, g1, g2⟩ := HC.out w1 (HBw.out.trans (hb.mono HBw.out.size)); have HB1 := hid (HBW.out.trans (hb.mono HBW.out.size)); have hszr : w.heap.size + 3 ≤ wr.heap.size := by rw [← hz0]; exact HBw.out.size
        have HA := hid hA; clear hb hA hry; go_wp2; refine leaves_cons (f := 95) (args := #[.pointer (some ⟨w.heap.size, 0, none⟩), .pointer (some ⟨w.heap.size + 1, 0, none⟩), .pointer (some ⟨w.heap.size + 1 + 1, 0, none⟩)]) (by simp) (by simp [go_sem]) ?_; refine (jfw _ _ _ _).mono ?_; rintro e u' w2 ⟨rfl, rfl, rfl⟩
        show ∃ v, (results Tryz.f66 _).run Tryz.prog _ = .ok v _ ∧ jeT w _ _ (.returned v) _
        obtain ⟨m0, m1, m2, mB⟩ := jjq (.slice a cs.length c) (.int .i64 0) (.int .i64 0) d0 d1 d2; refine ⟨.tuple #[.slice a cs.length c, .int .i64 0, .int .i64 0], by simp only [results, Tryz.results66]; simp [go_sem, m0, m1, m2], ?_⟩; rw [HM.out]; have hup : ∀ k, newB wr.heap.size k → newB w.heap.size k := fun k hk => by have : wr.heap.size ≤ k := hk; show w.heap.size ≤ k; omega
        have hk : Keeps (newB wr.heap.size) w1 (((w1.setCell ⟨w.heap.size, 0, none⟩ (.slice a cs.length c)).setCell ⟨w.heap.size + 1, 0, none⟩ (.int .i64 0)).setCell ⟨w.heap.size + 1 + 1, 0, none⟩ (.int .i64 0)) :=
            ((Keeps.set w1 (p := ⟨w.heap.size, 0, none⟩) _ (fun k hk => by have : wr.heap.size ≤ k := hk; show k ≠ w.heap.size; omega)).trans (Keeps.set _ (p := ⟨w.heap.size + 1, 0, none⟩) _ (fun k hk => by have : wr.heap.size ≤ k := hk; show k ≠ w.heap.size + 1; omega))).trans (Keeps.set _ (p := ⟨w.heap.size + 1 + 1, 0, none⟩) _ (fun k hk => by have : wr.heap.size ≤ k := hk; show k ≠ w.heap.size + 1 + 1; omega))
        exact ⟨a, c, rfl, RowM.imp HA.out hup hk (fun _ _ h => CmdM.imp hup hk _ _ _ h), HB1.out.trans mB, HRY.out⟩
def marksL : List UInt8 := [33, 35, 36, 37, 38, 39, 42, 43, 45, 47, 61, 63, 94, 95, 96, 123, 124, 125, 126]
def qh (c : UInt8) : Bool := (decide (97 ≤ c.toNat) && decide (c.toNat ≤ 122)) || (decide (65 ≤ c.toNat) && decide (c.toNat ≤ 90)) || (decide (48 ≤ c.toNat) && decide (c.toNat ≤ 57)) || marksL.contains c
def runB (c : UInt8) : Bool := c == 46 || qh c
def dotS : Bool → List UInt8 → Bool
 | b, [] => !b
 | b, c :: t => if c = 46 then !b && dotS true t else qh c && dotS false t
def j4 (l : List UInt8) : Bool := dotS true l
def jar (l : List UInt8) : Bool := !l.isEmpty && l.all qh
theorem jgL {p : List UInt8} (h : 46 ∉ p) (b : Bool) : dotS b p = if p.isEmpty then !b else p.all qh := by
 induction p generalizing b with
 | nil => simp [dotS]
 | cons c t ih =>
   simp only [List.mem_cons, not_or] at h; have hc : ¬ c = 46 := fun e => h.1 e.symm
   simp only [dotS, if_neg hc, ih h.2, List.isEmpty_cons, List.all_cons]; cases t <;> simp
theorem jj6 {p : List UInt8} (h : 46 ∉ p) (b : Bool) (t : List UInt8) : dotS b (p ++ 46 :: t) = ((if p.isEmpty then !b else p.all qh) && dotS true t) := by
 induction p generalizing b with
 | nil => simp [dotS]
 | cons c u ih =>
   simp only [List.mem_cons, not_or] at h; have hc : ¬ c = 46 := fun e => h.1 e.symm
   simp only [List.cons_append, dotS, if_neg hc, ih h.2, List.isEmpty_cons, List.all_cons]; cases u <;> simp [Bool.and_assoc]
theorem vB {p : List UInt8} (h : 46 ∉ p) : j4 p = jar p := by
 unfold j4 jar; rw [jgL h]; cases p <;> simp
theorem jcO {p : List UInt8} (h : 46 ∉ p) (t : List UInt8) : j4 (p ++ 46 :: t) = (jar p && j4 t) := by
 unfold j4 jar; rw [jj6 h]; cases p <;> simp
def jS (l d : List UInt8) : Int := if (j4 l && j4 d) = false then 3 else if 100 < l.length + 1 + d.length then 1 else 0
def ju (s : List UInt8) : List UInt8 := s.dropWhile jbb
def wrun (s : List UInt8) : List UInt8 := s.takeWhile runB
def j9 (s : List UInt8) : List UInt8 := s.dropWhile runB
theorem vP (s : List UInt8) : wrun s ++ j9 s = s := List.takeWhile_append_dropWhile
theorem jU (s : List UInt8) : (ju s).length ≤ s.length := (List.dropWhile_suffix _).length_le
theorem qQ (s : List UInt8) : (j9 s).length ≤ s.length := (List.dropWhile_suffix _).length_le
abbrev Adr := List UInt8 × List UInt8
def zr (c : UInt8) : List UInt8 → Option (List UInt8)
 | [] => none
 | x :: t => if x = c then some t else none
theorem zz {c : UInt8} {s r : List UInt8} (h : zr c s = some r) : s = c :: r := by
 cases s with
 | nil => cases h
 | cons x t =>
   by_cases e : x = c
   · simp only [zr, if_pos e, Option.some.injEq] at h; rw [e, h]
   · simp only [zr, if_neg e] at h; cases h
def jY : Bool → List UInt8 → Option (List UInt8)
 | _, [] => none
 | true, c :: t => if c = 34 ∨ c = 92 then jY false t else none
 | false, c :: t => if c = 34 then some t else if c = 92 then jY true t else jY false t
theorem jaa {b : Bool} {s r : List UInt8} (h : jY b s = some r) : r.length < s.length := by
 induction s generalizing b with
 | nil => cases b <;> cases h
 | cons c t ih =>
   cases b with
   | true =>
     unfold jY at h; split at h
     · have := ih h; simp; omega
     · cases h
   | false =>
     unfold jY at h; split at h
     · cases h; simp
     · split at h <;> (have := ih h; simp; omega)
def zU (s : List UInt8) : Option (Adr × List UInt8) :=
 match zr 64 (j9 s) with
 | none => none
 | some r => if jS (wrun s) (wrun r) = 0 then some ((wrun s, wrun r), j9 r) else none
theorem jcZ {s r : List UInt8} {a : Adr} (h : zU s = some (a, r)) : r.length ≤ s.length := by
 unfold zU at h; split at h
 · cases h
 · rename_i r' hr; split at h
   · cases h; have h1 := zz hr; have h2 := qQ s; rw [h1] at h2; have h3 := qQ r'
     simp at h2; omega
   · cases h
def vh : Nat → List UInt8 → Option (List UInt8)
 | 0, s => some s
 | _ + 1, [] => some []
 | n + 1, c :: t =>
   if c = 34 then (jY false t).bind fun r => vh n (ju r)
   else if runB c then vh n (ju (j9 t)) else some (c :: t)
theorem jcl : ∀ (n m : Nat) (s : List UInt8), s.length ≤ n → s.length ≤ m → vh n s = vh m s := by
 intro n
 induction n with
 | zero =>
   intro m s h1 _; have e : s = [] := List.length_eq_zero_iff.1 (by omega); subst e; cases m <;> rfl
 | succ n ih =>
   intro m s h1 h2; cases s with
   | nil => cases m <;> rfl
   | cons c t =>
     cases m with
     | zero => simp at h2
     | succ m =>
       simp only [List.length_cons] at h1 h2; have h3 := qQ t; have h4 := jU (j9 t); simp only [vh]; rw [ih m (ju (j9 t)) (by omega) (by omega)]; cases hq : jY false t with
       | none => rfl
       | some q =>
         have k1 := jaa hq; have k2 := jU q; simp only [Option.bind_some]; rw [ih m (ju q) (by omega) (by omega)]
def zI (s : List UInt8) : Option (List UInt8) := vh s.length s
theorem jba : zI [] = some [] := rfl
theorem jbj (t : List UInt8) : zI (34 :: t) = (jY false t).bind fun r => zI (ju r) := by
 show vh (t.length + 1) (34 :: t) = _
 simp only [vh, if_true]; cases hq : jY false t with
 | none => rfl
 | some q =>
   have k1 := jaa hq; have k2 := jU q; exact jcl _ _ _ (by omega) (Nat.le_refl _)
theorem jda {c : UInt8} {t : List UInt8} (h : c ≠ 34) (hr : runB c = true) : zI (c :: t) = zI (ju (j9 (c :: t))) := by
 have e : j9 (c :: t) = j9 t := by unfold j9; rw [List.dropWhile_cons, if_pos hr]
 have h3 := qQ t; have h4 := jU (j9 t); rw [e]
 show vh (t.length + 1) (c :: t) = _
 simp only [vh, if_neg h, if_pos hr]; exact jcl _ _ _ (by omega) (Nat.le_refl _)
theorem jcm {c : UInt8} {t : List UInt8} (h : c ≠ 34) (hr : runB c = false) : zI (c :: t) = some (c :: t) := by
 show vh (t.length + 1) (c :: t) = _
 simp [vh, if_neg h, hr]
theorem jc9 (n : Nat) : ∀ (s r : List UInt8), s.length ≤ n → zI s = some r → r.length ≤ s.length := by
 induction n with
 | zero =>
   intro s r hn h; cases s with
   | nil => rw [jba] at h; cases h; simp
   | cons c t => simp at hn
 | succ n ih =>
   intro s r hn h; cases s with
   | nil => rw [jba] at h; cases h; simp
   | cons c t =>
     simp only [List.length_cons] at hn
     by_cases hc : c = 34
     · subst hc; rw [jbj] at h; cases hq : jY false t with
       | none => rw [hq] at h; cases h
       | some q =>
         rw [hq] at h; have h1 := jaa hq; have h2 := jU q; have h3 := ih _ _ (by omega) h
         simp; omega
     · cases hr : runB c with
       | true =>
         rw [jda hc hr] at h; have e : j9 (c :: t) = j9 t := by unfold j9; rw [List.dropWhile_cons, if_pos hr]
         rw [e] at h; have h1 := qQ t; have h2 := jU (j9 t); have h3 := ih _ _ (by omega) h
         simp; omega
       | false =>
         rw [jcm hc hr] at h; cases h; simp
def jb4 (s : List UInt8) : Option (Adr × List UInt8) :=
 (zI s).bind fun r => (zr 60 r).bind fun r => (zU r).bind fun x => (zr 62 x.2).map fun r => (x.1, r)
theorem jhi {s r : List UInt8} {a : Adr} (h : jb4 s = some (a, r)) : r.length ≤ s.length := by
 unfold jb4 at h; simp only [Option.bind_eq_some_iff, Option.map_eq_some_iff] at h; obtain ⟨r1, h1, r2, h2, ⟨a3, r3⟩, h3, r4, h4, h5⟩ := h; cases h5; have k1 := jc9 _ _ _ (Nat.le_refl _) h1; have k2 := congrArg List.length (zz h2); have k3 := jcZ h3; have k4 := congrArg List.length (zz h4)
 simp at k2 k4 k3; omega
def jE (s : List UInt8) : Option (Adr × List UInt8) :=
 (if (zr 64 (j9 (ju s))).isSome then zU (ju s) else jb4 (ju s)).map fun x => (x.1, ju x.2)
theorem vw {s r : List UInt8} {a : Adr} (h : jE s = some (a, r)) : r.length ≤ s.length := by
 unfold jE at h; rw [Option.map_eq_some_iff] at h; obtain ⟨⟨a1, r1⟩, h1, h2⟩ := h; cases h2; have k1 := jU s; have k2 := jU r1; split at h1
 · have := jcZ h1; simp only at *; omega
 · have := jhi h1; simp only at *; omega
def jb2 : Nat → List UInt8 → Option (List Adr)
 | 0, _ => none
 | n + 1, s => (jE s).bind fun x => if x.2 = [] then some [x.1] else (zr 44 x.2).bind fun r => (jb2 n r).map (x.1 :: ·)
theorem jg9 : ∀ (n m : Nat) (s : List UInt8), s.length < n → s.length < m → jb2 n s = jb2 m s := by
 intro n
 induction n with
 | zero => intro m s h1; omega
 | succ n ih =>
   intro m s h1 h2; cases m with
   | zero => omega
   | succ m =>
     simp only [jb2]; cases ha : jE s with
     | none => rfl
     | some x =>
       have k1 := vw (a := x.1) (r := x.2) ha; simp only [Option.bind_some]; split
       · rfl
       · cases ht : zr 44 x.2 with
         | none => rfl
         | some r =>
           have k2 := congrArg List.length (zz ht); simp only [List.length_cons] at k2; simp only [Option.bind_some]; rw [ih m r (by omega) (by omega)]
def vj (s : List UInt8) : Option (List Adr) := jb2 (s.length + 1) s
theorem jhb {s : List UInt8} (h : jE s = none) : vj s = none := by
 unfold vj; simp only [jb2, h]; rfl
theorem jiK {s : List UInt8} {a : Adr} (h : jE s = some (a, [])) : vj s = some [a] := by
 unfold vj; simp only [jb2, h]; rfl
theorem jiJ {s r : List UInt8} {a : Adr} (h : jE s = some (a, r)) (hr : r ≠ []) (h3 : zr 44 r = none) : vj s = none := by
 unfold vj; simp only [jb2, h, Option.bind_some, if_neg hr, h3]; rfl
theorem jha {s r : List UInt8} {a : Adr} (h : jE s = some (a, 44 :: r)) : vj s = (vj r).map (a :: ·) := by
 have k1 := vw h; simp only [List.length_cons] at k1
 show jb2 (s.length + 1) s = (jb2 (r.length + 1) r).map _
 have e : zr 44 (44 :: r) = some r := by simp [zr]
 rw [jb2, h, Option.bind_some, if_neg (by simp), e, Option.bind_some, jg9 s.length (r.length + 1) r (by omega) (by omega)]
def vi (s : List UInt8) : List Adr × Int :=
 if 2000 < s.length then ([], 1) else match vj s with
    | none => ([], 3)
    | some l => if 20 < l.length then ([], 5) else (l, 0)
def wordy (l : List UInt8) : Prop := l ≠ [] ∧ l.length ≤ 8 ∧ ∀ c ∈ l, 97 ≤ c.toNat ∧ c.toNat ≤ 122
theorem jfk {c : UInt8} (h : 97 ≤ c.toNat ∧ c.toNat ≤ 122) : qh c = true := by unfold qh; simp [h.1, h.2]
def orgL : List UInt8 := [46, 111, 114, 103]
def letters (l : List UInt8) : Prop := ∀ c ∈ l, (97 ≤ c.toNat ∧ c.toNat ≤ 122) ∨ c = 46
theorem wordy.letters {l : List UInt8} (h : wordy l) : letters l := fun c hc => Or.inl (h.2.2 c hc)
theorem wordy.org {l : List UInt8} (h : wordy l) : Go.Proofs.YtmgdnhjemhhleaaGreatDoor.letters (l ++ orgL) := by
 intro c hc
 rcases List.mem_append.1 hc with hc | hc
 · exact Or.inl (h.2.2 c hc)
 · simp [orgL] at hc
   rcases hc with rfl | rfl | rfl | rfl <;> decide
theorem jbk {l : List UInt8} (h : wordy l) : j4 l = true := by
 rw [vB (fun hc => by have := h.2.2 46 hc; simp at this)]; unfold jar; obtain ⟨h1, _, h2⟩ := h; have e : l.isEmpty = false := by cases l <;> simp_all
 rw [e]; simp only [Bool.not_false, Bool.true_and, List.all_eq_true]; exact fun c hc => jfk (h2 c hc)
theorem jjL {l : List UInt8} (h : wordy l) : j4 (l ++ orgL) = true := by
 have e := jbk h; have h0 : 46 ∉ l := fun hc => by have := h.2.2 46 hc; simp at this
 rw [vB h0] at e
 show j4 (l ++ 46 :: [111, 114, 103]) = true
 rw [jcO h0, e]
 decide
def lawful (a : Adr) : Prop := wordy a.1 ∧ ∃ d, wordy d ∧ a.2 = d ++ orgL
theorem lawful.check {a : Adr} (h : lawful a) : jS a.1 a.2 = 0 := by
 obtain ⟨h1, d, h2, h3⟩ := h; unfold jS; rw [h3, jbk h1, jjL h2]; have l1 := h1.2.1; have l2 := h2.2.1
 simp [orgL]
 omega
theorem lawful.len {a : Adr} (h : lawful a) : a.1.length ≤ 8 ∧ a.2.length ≤ 12 := by
 obtain ⟨h1, d, h2, h3⟩ := h; have l1 := h1.2.1; have l2 := h2.2.1; rw [h3]; simp [orgL]; omega
theorem lawful.letters {a : Adr} (h : lawful a) : letters a.1 ∧ Go.Proofs.YtmgdnhjemhhleaaGreatDoor.letters a.2 := by
 obtain ⟨h1, d, h2, h3⟩ := h; rw [h3]; exact ⟨h1.letters, h2.org⟩
def jnv (a : Adr) : List UInt8 := a.1 ++ 64 :: a.2
theorem lawful.size {a : Adr} (h : lawful a) : (jnv a).length ≤ 21 := by
 have := h.len
 simp [jnv]; omega
structure Man where
 adr : Adr
 word : List UInt8
 kind : Nat
 sep : Nat
def Man.ok (x : Man) : Prop := lawful x.adr ∧ wordy x.word
def flagTab : List (List UInt8 × Nat) := [([92, 83, 101, 101, 110], 1), ([92, 65, 110, 115, 119, 101, 114, 101, 100], 2), ([92, 70, 108, 97, 103, 103, 101, 100], 4), ([92, 68, 101, 108, 101, 116, 101, 100], 8), ([92, 68, 114, 97, 102, 116], 16)]
def jd9 : List (List UInt8 × Nat) → List UInt8 → Nat
 | [], _ => 0
 | x :: r, s => if x.1 = s then x.2 else jd9 r s
def jbo (s : List UInt8) : Nat := jd9 flagTab s
def jbV : Nat → List (List UInt8) → Option Nat
 | n, [] => some n
 | n, s :: r => if jbo s = 0 then none else jbV (n ||| jbo s) r
def vg (l : List (List UInt8)) : Option Nat := jbV 0 l
theorem jiq : ∀ (t : List (List UInt8 × Nat)) (s : List UInt8), (∀ x ∈ t, x.2 < 32) → jd9 t s < 32 := by
 intro t
 induction t with
 | nil => intro s _; show 0 < 32; omega
 | cons x t ih =>
   intro s h; unfold jd9; split
   · exact h x (by simp)
   · exact ih s fun y hy => h y (by simp [hy])
theorem jka (s : List UInt8) : jbo s < 32 := jiq _ _ (by decide)
theorem jm9 {a b : Nat} (ha : a < 32) (hb : b < 32) : a ||| b < 32 := Nat.or_lt_two_pow (n := 5) ha hb
def vG (c : UInt8) : Bool := decide (33 ≤ c.toNat) && decide (c.toNat ≤ 126)
def jak (s : List UInt8) : Int := if s.length < 1 ∨ 12 < s.length then 1 else if s.all vG then 0 else 3
def jim : List UInt8 := [102, 105, 108, 101, 105, 110, 116, 111]
def rejW : List UInt8 := [114, 101, 106, 101, 99, 116]
def envW : List UInt8 := [101, 110, 118, 101, 108, 111, 112, 101]
def flgW : List UInt8 := [105, 109, 97, 112, 52, 102, 108, 97, 103, 115]
def jmb : List UInt8 := [102, 114, 111, 109]
def toW : List UInt8 := [116, 111]
def extP (s : List UInt8) : Bool := decide (s = jim) || decide (s = rejW) || decide (s = envW) || decide (s = flgW)
def qK (s : List UInt8) : Bool := decide (s = jmb) || decide (s = toW)
def jfq (k : Int) : List UInt8 := if k = 5 then jim else if k = 7 then rejW else if k = 8 ∨ k = 9 then flgW else []
def hasP (H : List (List UInt8)) (s : List UInt8) : Bool := s.isEmpty || H.contains s
def zY (l : List (List UInt8)) : Bool := l.any fun s => decide (100 < s.length)
def envP (H : List (List UInt8)) (t : Tst) : Int := if hasP H envW = false then 8 else if t.names.all qK then 0 else 7
def tstA (H : List (List UInt8)) : Nat → Tst → Int
 | 0, _ => 0
 | n + 1, t => if t.kind = 8 ∧ envP H t ≠ 0 then envP H t else if zY t.names ∨ zY t.keys then 1 else jh (tstA H n) t.tests
def jcs (s : List UInt8) : Int := if (vi s).2 = 0 ∧ (vi s).1.length = 1 then 0 else 3
def cmdA (H : List (List UInt8)) : Nat → Cmd → Int
 | 0, _ => 0
 | n + 1, c =>
   if hasP H (jfq c.kind) = false then 8
   else if c.kind = 1 then 3
   else if c.kind = 5 then jak (c.texts.getD 0 [])
   else if c.kind = 8 ∨ c.kind = 9 then (if vg c.texts = none then 7 else 0)
   else if c.kind = 6 then jcs (c.texts.getD 0 [])
   else if c.kind = 2 then
     (if tstA H n c.test ≠ 0 then tstA H n c.test
      else if jh (cmdA H n) c.thn ≠ 0 then jh (cmdA H n) c.thn
      else jh (cmdA H n) c.els)
   else 0
def zm : List Cmd → Nat
 | [] => 0
 | c :: r => if c.kind = 1 then zm r + 1 else 0
def jhw (l : List Cmd) : List (List UInt8) := (l.take (zm l)).flatMap (·.texts)
def vu (n : Nat) (l : List Cmd) : Int :=
 if zQ n l ≠ 0 then zQ n l
 else if (jhw l).all extP = false then 7
 else jh (cmdA (jhw l) n) (l.drop (zm l))
theorem jij {n d : Nat} {l : List Cmd} (h : jN n d l = 0) : ∀ x ∈ l, jn n d x = 0 := by
 intro x hx; unfold jN at h
 induction l with
 | nil => cases hx
 | cons y l ih =>
   unfold jh at h
   by_cases hy : jn n d y = 0
   · rw [if_pos hy] at h
     rcases List.mem_cons.1 hx with e | e
     · rw [e]; exact hy
     · exact ih h e
   · rw [if_neg hy] at h; exact absurd h hy
theorem jd3 {n : Nat} {l : List Cmd} (h : zQ n l = 0) : (∀ x ∈ l, jn n 0 x = 0) ∧ (zh n l).length ≤ 400 := by
 unfold zQ at h
 by_cases h1 : jN n 0 l = 0
 · rw [if_neg (by simpa using h1)] at h; refine ⟨jij h1, ?_⟩
   rcases Nat.lt_or_ge 400 (zh n l).length with h2 | h2
   · rw [if_pos h2] at h; simp at h
   · exact h2
 · rw [if_pos h1] at h; exact absurd h h1
theorem jdf {l : List UInt8} {k : Nat} {c : UInt8} (f : UInt8 → Bool) (h : l[k]? = some c) : (l.take (k + 1)).all f = ((l.take k).all f && f c) := by
 have hk : k < l.length := (List.getElem?_eq_some_iff.1 h).1; have e : l[k] = c := (List.getElem?_eq_some_iff.1 h).2; rw [List.take_succ_eq_append_getElem hk, List.all_append, e]
 simp
theorem jiw {c : UInt8} (h : vG c = false) : c.toNat < 33 ∨ 126 < c.toNat := by
 unfold vG at h; simp at h; omega
theorem jgW {c : UInt8} (h : vG c = true) : 33 ≤ c.toNat ∧ c.toNat ≤ 126 := by
 unfold vG at h; simpa using h
theorem jiU {s : ByteArray} {c : UInt8} (hc : c ∈ s.data.toList) (h1 : 1 ≤ s.size) (h2 : s.size ≤ 12) (h : vG c = false) : jak s.data.toList = 3 := by
 unfold jak; rw [if_neg (by rw [size_list]; omega), if_neg]; intro ha; have := List.all_eq_true.1 ha c hc; rw [h] at this; cases this
theorem jhh {s : ByteArray} (h1 : 1 ≤ s.size) (h2 : s.size ≤ 12) (h : s.data.toList.all vG = true) : jak s.data.toList = 0 := by
 unfold jak; rw [if_neg (by rw [size_list]; omega), if_pos h]
theorem jcY {s : ByteArray} (h : s.size < 1 ∨ 12 < s.size) : jak s.data.toList = 1 := by
 unfold jak; rw [if_pos (by rw [size_list]; exact h)]
theorem jez (s : ByteArray) (w : World) :
 Calls Tryz.prog 81 #[.string s] w fun e w' => e = .returned (.int .i64 (jak s.data.toList)) ∧ w' = w := by
 by_cases h0 : s.size < 1
 · have HR : Hid _ := jcY (Or.inl h0); have i0 : (s.size : Int) < 1 := by omega
   go_enter Tryz.func81, Tryz.ntmps81; go_wp2; go_ret; exact ⟨jc HR.out.symm, rfl⟩
 · by_cases h12 : 12 < s.size
   · have HR : Hid _ := jcY (Or.inr h12); have i0 : ¬ (s.size : Int) < 1 := by omega
     have i1 : (12 : Int) < (s.size : Int) := by omega
     go_enter Tryz.func81, Tryz.ntmps81; go_wp2; go_ret; exact ⟨jc HR.out.symm, rfl⟩
   · have i0 : ¬ (s.size : Int) < 1 := by omega
     have i1 : ¬ (12 : Int) < (s.size : Int) := by omega
     go_enter Tryz.func81, Tryz.ntmps81; go_wp2
     go_loopw [14] (fun i wr => ∃ k : Nat, k ≤ s.size ∧ i = .int .i64 k ∧ Hid ((s.data.toList.take k).all vG = true) ∧ wr = w) (fun i _ => s.size - (intOf i).toNat)
     case atStart => exact ⟨0, Nat.zero_le _, rfl, rfl, rfl⟩
     case round =>
        obtain ⟨k, hk, rfl, HT, rfl⟩ := hrel
        by_cases hlt : k < s.size
        · have hg := jbv s k hlt; have HS : Hid _ := jdf vG hg; have hlt' : (k : Int) < (s.size : Int) := by omega
          have hk0 : (0 : Int) ≤ (k : Int) := by omega
          cases ha : vG s[k] with
          | true =>
            have HN : Hid ((s.data.toList.take (k + 1)).all vG = true) := by unfold Hid; rw [HS.out, HT.out, ha]; rfl
            obtain ⟨b1, b2⟩ := jgW ha; have c1 : ¬ ((s[k].toNat : Int) < 33) := by omega
            have c2 : ¬ ((126 : Int) < (s[k].toNat : Int)) := by omega
            clear HS hg ha; go_wp2
            go_roundw
            case rel => first | exact ⟨k + 1, by omega, by go_num, HN, by first | rfl | trivial⟩ | ((repeat apply Exists.intro); exact ⟨⟨k + 1, by omega, by go_num, HN, by first | rfl | trivial⟩, rfl⟩) | (refine ⟨trivial, ?_⟩; (repeat apply Exists.intro); exact ⟨⟨k + 1, by omega, by go_num, HN, by first | rfl | trivial⟩, rfl⟩)
            case measure => simp [intOf]; omega
          | false =>
            have HN : Hid _ := jiU (List.mem_of_getElem? hg) (by omega) (by omega) ha
            rcases jiw ha with b | b
            · have c1 : ((s[k].toNat : Int) < 33) := by omega
              clear HS hg ha; go_wp2; go_ret; exact ⟨jc HN.out.symm, rfl⟩
            · have c1 : ¬ ((s[k].toNat : Int) < 33) := by omega
              have c2 : ((126 : Int) < (s[k].toNat : Int)) := by omega
              clear HS hg ha; go_wp2; go_ret; exact ⟨jc HN.out.symm, rfl⟩
        · have hk' : k = s.size := by omega
          have HN : Hid (jak s.data.toList = 0) := jhh (by omega) (by omega) (by have := HT.out; rwa [List.take_of_length_le (by rw [size_list]; omega)] at this); have hlt' : ¬ (k : Int) < (s.size : Int) := by omega
          go_wp2; go_ret; exact ⟨jc HN.out.symm, rfl⟩
def jnw : Value → ByteArray | .string s => s | _ => ⟨#[]⟩
def marksT : ByteArray := ⟨#[33, 35, 36, 37, 38, 39, 42, 43, 45, 47, 61, 63, 94, 95, 96, 123, 124, 125, 126]⟩
theorem jhf : marksT.data.toList = marksL := rfl
theorem vX (c : UInt8) (w : World) :
 Calls Tryz.prog 113 #[.int .u8 c.toNat] w fun e w' => e = .returned (.bool (qh c)) ∧ w' = w := by
 have hu := c.toNat_lt; have hidx : Hid (decide (0 ≤ Lib.indexByte marksT.data.toList ((c.toNat : Int)).toNat.toUInt8) = marksL.contains c) := by
  unfold Hid; rw [jaY, jhf, ← Lib.contains_iff_indexByte]
 by_cases h1 : 97 ≤ c.toNat ∧ c.toNat ≤ 122
 · obtain ⟨a1, a2⟩ := h1; have HA : Hid (qh c = true) := by unfold Hid qh; simp [a1, a2]
   have b1 : (97 : Int) ≤ (c.toNat : Int) := by omega
   have b2 : (c.toNat : Int) ≤ 122 := by omega
   clear hidx; go_enter Tryz.func113, Tryz.ntmps113; go_wp2; go_ret; exact ⟨jb HA.out.symm, rfl⟩
 by_cases h2 : 65 ≤ c.toNat ∧ c.toNat ≤ 90
 · obtain ⟨a1, a2⟩ := h2; have HA : Hid (qh c = true) := by unfold Hid qh; simp [a1, a2]
   have b0 : ¬ (97 : Int) ≤ (c.toNat : Int) := by omega
   have b1 : (65 : Int) ≤ (c.toNat : Int) := by omega
   have b2 : (c.toNat : Int) ≤ 90 := by omega
   clear hidx; go_enter Tryz.func113, Tryz.ntmps113; go_wp2; go_ret; exact ⟨jb HA.out.symm, rfl⟩
 by_cases h3 : 48 ≤ c.toNat ∧ c.toNat ≤ 57
 · obtain ⟨a1, a2⟩ := h3; have HA : Hid (qh c = true) := by unfold Hid qh; simp [a1, a2]
   have b0 : ¬ (97 : Int) ≤ (c.toNat : Int) := by omega
   have b3 : ¬ (65 : Int) ≤ (c.toNat : Int) := by omega
   have b1 : (48 : Int) ≤ (c.toNat : Int) := by omega
   have b2 : (c.toNat : Int) ≤ 57 := by omega
   clear hidx; go_enter Tryz.func113, Tryz.ntmps113; go_wp2; go_ret; exact ⟨jb HA.out.symm, rfl⟩
 have HA : Hid (qh c = marksL.contains c) := by
  unfold Hid qh; have e1 : (decide (97 ≤ c.toNat) && decide (c.toNat ≤ 122)) = false := by simp; omega
  have e2 : (decide (65 ≤ c.toNat) && decide (c.toNat ≤ 90)) = false := by simp; omega
  have e3 : (decide (48 ≤ c.toNat) && decide (c.toNat ≤ 57)) = false := by simp; omega
  rw [e1, e2, e3]; rfl
 have p1 : (97 : Int) ≤ (c.toNat : Int) → ¬ (c.toNat : Int) ≤ 122 := by omega
 have p2 : (65 : Int) ≤ (c.toNat : Int) → ¬ (c.toNat : Int) ≤ 90 := by omega
 have p3 : (48 : Int) ≤ (c.toNat : Int) → ¬ (c.toNat : Int) ≤ 57 := by omega
 clear h1 h2 h3; go_enter Tryz.func113, Tryz.ntmps113; go_wp2_with fail
 all_goals
  refine (indexByte_any marksT c.toNat _).mono ?_; rintro e u ⟨rfl, rfl⟩; go_wp2; go_ret; refine ⟨jb ?_, rfl⟩; rw [HA.out, ← hidx.out]
  simp
theorem jdg {l : List UInt8} {k : Nat} {c : UInt8} (f : UInt8 → Bool) (h : l[k]? = some c) : (l.take (k + 1)).all f = ((l.take k).all f && f c) := by
 rw [jcj h]; simp
theorem jcU (s : ByteArray) (w : World) (hs : s.size ≤ maxLen) :
 Calls Tryz.prog 90 #[.string s] w fun e w' => e = .returned (.bool (jar s.data.toList)) ∧ w' = w := by
 unfold maxLen at hs; go_enter Tryz.func90, Tryz.ntmps90; go_wp2
 go_loopw [6] (fun i wr => ∃ k : Nat, k ≤ s.size ∧ i = .int .i64 k ∧ Hid ((s.data.toList.take k).all qh = true) ∧ wr = w) (fun i _ => s.size - (intOf i).toNat)
 case atStart => exact ⟨0, Nat.zero_le _, rfl, rfl, rfl⟩
 case round =>
  obtain ⟨k, hk, rfl, HT, rfl⟩ := hrel
  by_cases hlt : k < s.size
  · have hg := jbv s k hlt; have HS : Hid _ := jdg qh hg; cases ha : qh s[k] with
    | true =>
      have HN : Hid ((s.data.toList.take (k + 1)).all qh = true) := by unfold Hid; rw [HS.out, HT.out, ha]; rfl
      clear HS hg; have HA : Hid _ := ha; clear ha; go_wp2_with fail; refine (vX s[k] _).mono ?_; rintro e u ⟨rfl, hu⟩; have hu' := hu.symm; subst hu'; rw [HA.out]; go_wp2
      go_roundw
      case rel => first | exact ⟨k + 1, by omega, by go_num, HN, by first | rfl | trivial⟩ | ((repeat apply Exists.intro); exact ⟨⟨k + 1, by omega, by go_num, HN, by first | rfl | trivial⟩, rfl⟩) | (refine ⟨trivial, ?_⟩; (repeat apply Exists.intro); exact ⟨⟨k + 1, by omega, by go_num, HN, by first | rfl | trivial⟩, rfl⟩)
      case measure => simp [intOf]; omega
    | false =>
      have HN : Hid (jar s.data.toList = false) := by
       unfold Hid jar; have : s.data.toList.all qh = false := by
            rw [List.all_eq_false]; exact ⟨s[k], List.mem_of_getElem? hg, by simp [ha]⟩
       rw [this]; simp
      clear HS hg; have HA : Hid _ := ha; clear ha; go_wp2_with fail; refine (vX s[k] _).mono ?_; rintro e u ⟨rfl, hu⟩; have hu' := hu.symm; subst hu'; rw [HA.out]; go_wp2; go_ret; exact ⟨jb HN.out.symm, rfl⟩
  · have hk' : k = s.size := by omega
    have HE : Hid (jar s.data.toList = !(s.toList == [])) := by
        unfold Hid jar; have := HT.out; rw [hk', ← size_list, List.take_length] at this; rw [this, Lib.toList_data]; cases s.data.toList <;> rfl
    go_wp2; go_ret; refine ⟨jb ?_, rfl⟩; rw [HE.out]
    first | rfl | simp
theorem jh9 {l : List UInt8} {c : UInt8} (h : Lib.indexByte l c = -1) : c ∉ l ∧ Lib.cut l [c] = (l, [], false) := by
 constructor
 · intro hm; obtain ⟨k, hk⟩ := List.getElem?_of_mem hm; exact Lib.indexByte_none h k hk
 · unfold Lib.cut; rw [Lib.index_one, h]; rfl
theorem jia {l : List UInt8} {c : UInt8} {i : Nat} (h : Lib.indexByte l c = i) : c ∉ l.take i ∧ i < l.length ∧ l = l.take i ++ c :: l.drop (i + 1) ∧ Lib.cut l [c] = (l.take i, l.drop (i + 1), true) := by
 obtain ⟨h1, h2⟩ := Lib.indexByte_some h; obtain ⟨hi, he⟩ := List.getElem?_eq_some_iff.1 h1; refine ⟨?_, hi, ?_, ?_⟩
 · intro hm; obtain ⟨k, hk⟩ := List.getElem?_of_mem hm; rw [List.getElem?_take] at hk; split at hk
   · exact h2 k (by assumption) hk
   · cases hk
 · conv => lhs; rw [← List.take_append_drop i l, List.drop_eq_getElem_cons hi, he]
 · unfold Lib.cut; rw [Lib.index_one, h, if_pos (by omega)]
   simp
theorem zT (s : ByteArray) (w : World) (hs : s.size ≤ maxLen) :
 Calls Tryz.prog 63 #[.string s] w fun e w' => e = .returned (.bool (j4 s.data.toList)) ∧ ∃ n, w' = w.drewN n := by
 unfold maxLen at hs; go_enter Tryz.func63, Tryz.ntmps63; go_wp2
 go_loopw [0] (fun x wr => ∃ (t : ByteArray) (n : Nat), x = .string t ∧ t.size ≤ 9223372036854775807 ∧ Hid (t.size ≤ maxLen) ∧ Hid (j4 s.data.toList = j4 t.data.toList) ∧ wr = w.drewN n) (fun x _ => (jnw x).size)
 case atStart => exact ⟨s, 0, rfl, by omega, by unfold Hid maxLen; exact hs, rfl, rfl⟩
 case round =>
  obtain ⟨t, n, rfl, ht, HL, HD, rfl⟩ := hrel
  by_cases hi : Lib.indexByte t.data.toList 46 = -1
  · obtain ⟨h1, h2⟩ := jh9 hi; have HC : Hid _ := h2; have HE : Hid (j4 t.data.toList = jar t.data.toList) := vB h1; clear hi h1 h2; go_wp2_with fail; refine (cut1_any t 46 _ ht).mono ?_; rintro e u ⟨rfl, n2, hu⟩; have hu' := hu.symm; subst hu'; rw [HC.out]; go_wp2_with fail; refine (jcU _ _ ?hl).mono ?_
    case hl => show (S t.data.toList).size ≤ _; rw [jdY]; exact HL.out
    rintro e u2 ⟨rfl, hu2⟩; have hu2' := hu2.symm; subst hu2'; cases ha : jar t.data.toList with
    | true =>
      have HA : Hid _ := ha; clear ha
      try rw [HA.out]
      go_wp2; go_ret; exact ⟨jb (by rw [HD.out, HE.out, HA.out]), _, rfl⟩
    | false =>
      have HA : Hid _ := ha; clear ha
      try rw [HA.out]
      go_wp2; go_ret; exact ⟨jb (by rw [HD.out, HE.out, HA.out]), _, rfl⟩
  · have hge := Lib.indexByte_ge t.data.toList 46; obtain ⟨i, hi'⟩ : ∃ i : Nat, Lib.indexByte t.data.toList 46 = i := ⟨(Lib.indexByte t.data.toList 46).toNat, by omega⟩; obtain ⟨h1, hil, h3, h2⟩ := jia hi'; have HC : Hid _ := h2; have HE : Hid (j4 t.data.toList = (jar (t.data.toList.take i) && j4 (t.data.toList.drop (i + 1)))) := by
        unfold Hid
        conv => lhs; rw [h3]
        exact jcO h1 _
    have HZ1 : Hid ((S (t.data.toList.take i)).size ≤ maxLen) := by
        unfold Hid; rw [jd]; have := HL.out; rw [← size_list] at this; exact Nat.le_trans (List.length_take_le' _ _) this
    have hz2 : (S (t.data.toList.drop (i + 1))).size < t.size := by
        rw [jd, ← size_list, List.length_drop]; omega
    clear hi hge hi' h1 h2 h3 hil; go_wp2_with fail; refine (cut1_any t 46 _ ht).mono ?_; rintro e u ⟨rfl, n2, hu⟩; have hu' := hu.symm; subst hu'; rw [HC.out]; go_wp2_with fail; refine (jcU _ _ ?hl).mono ?_
    case hl => exact HZ1.out
    rintro e u2 ⟨rfl, hu2⟩; have hu2' := hu2.symm; subst hu2'; cases ha : jar (t.data.toList.take i) with
    | true =>
      have HA : Hid _ := ha; clear ha
      try rw [HA.out]
      go_wp2
      go_roundw
      case rel => first | exact ⟨S (t.data.toList.drop (i + 1)), n + n2, rfl, by omega, by unfold Hid; have := HL.out; omega, by unfold Hid; rw [HD.out, HE.out, HA.out, jj]; rfl, rfl⟩ | ((repeat apply Exists.intro); exact ⟨⟨S (t.data.toList.drop (i + 1)), n + n2, rfl, by omega, by unfold Hid; have := HL.out; omega, by unfold Hid; rw [HD.out, HE.out, HA.out, jj]; rfl, rfl⟩, rfl⟩) | (refine ⟨trivial, ?_⟩; (repeat apply Exists.intro); exact ⟨⟨S (t.data.toList.drop (i + 1)), n + n2, rfl, by omega, by unfold Hid; have := HL.out; omega, by unfold Hid; rw [HD.out, HE.out, HA.out, jj]; rfl, rfl⟩, rfl⟩)
      case measure => exact hz2
    | false =>
      have HA : Hid _ := ha; clear ha
      try rw [HA.out]
      go_wp2; go_ret; exact ⟨jb (by rw [HD.out, HE.out, HA.out]; rfl), _, rfl⟩
theorem zR (l d : ByteArray) (w : World) (hl : l.size ≤ 140737488355328) (hd : d.size ≤ 140737488355328) :
 Calls Tryz.prog 34 #[.agg #[.string l, .string d]] w fun e w' => e = .returned (.int .i64 (jS l.data.toList d.data.toList)) ∧ Below w.heap.size w w' := by
 have H1 : Hid (l.size ≤ maxLen) := by unfold Hid maxLen; omega
 have H2 : Hid (d.size ≤ maxLen) := by unfold Hid maxLen; omega
 have HC : Hid (jS l.data.toList d.data.toList = if (j4 l.data.toList && j4 d.data.toList) = false then 3 else if 100 < l.size + 1 + d.size then 1 else 0) := by
  unfold Hid jS; rw [size_list, size_list]
 have hN : Below w.heap.size w (w.alloc (.cells #[.string l, .string d] 76)) := nb0 _ _; have HN : Hid _ := hN; clear hN; cases h1 : j4 l.data.toList with
 | false =>
   rw [h1] at HC; have HE : Hid _ := h1; clear h1; go_enter Tryz.func34, Tryz.ntmps34; go_wp2_with fail; refine (zT l _ H1.out).mono ?_; rintro e u ⟨rfl, n, hu⟩; have hu' := hu.symm; subst hu'; rw [HE.out]; go_wp2; go_ret; exact ⟨jc (by rw [HC.out]; rfl), qa HN.out _⟩
 | true =>
   rw [h1] at HC; have HE : Hid _ := h1; clear h1; have hc : ∀ n, ((w.alloc (.cells #[.string l, .string d] 76)).drewN n).cell? ⟨w.heap.size, 1, none⟩ = some (.string d) := fun n => by
    show (w.alloc _).cell? _ = _; simp
   cases h2 : j4 d.data.toList with
   | false =>
     rw [h2] at HC; have HF : Hid _ := h2; clear h2; go_enter Tryz.func34, Tryz.ntmps34; go_wp2_with fail; refine (zT l _ H1.out).mono ?_; rintro e u ⟨rfl, n, hu⟩; have hu' := hu.symm; subst hu'; rw [HE.out]; have hc1 := hc n; go_wp2_with fail; refine (zT d _ H2.out).mono ?_; rintro e u2 ⟨rfl, n2, hu2⟩; have hu2' := hu2.symm; subst hu2'; rw [HF.out]; go_wp2; go_ret; exact ⟨jc (by rw [HC.out]; rfl), by first | exact qa (qa HN.out _) _ | exact qa HN.out _⟩
   | true =>
     rw [h2] at HC; have HF : Hid _ := h2; clear h2; have hc0 : ∀ n m, (((w.alloc (.cells #[.string l, .string d] 76)).drewN n).drewN m).cell? ⟨w.heap.size, 0, none⟩ = some (.string l) := fun n m => by
        show (w.alloc _).cell? _ = _; simp
     have hc2 : ∀ n m, (((w.alloc (.cells #[.string l, .string d] 76)).drewN n).drewN m).cell? ⟨w.heap.size, 1, none⟩ = some (.string d) := fun n m => by
        show (w.alloc _).cell? _ = _; simp
     go_enter Tryz.func34, Tryz.ntmps34; go_wp2_with fail; refine (zT l _ H1.out).mono ?_; rintro e u ⟨rfl, n, hu⟩; have hu' := hu.symm; subst hu'; rw [HE.out]; have hc1 := hc n; go_wp2_with fail; refine (zT d _ H2.out).mono ?_; rintro e u2 ⟨rfl, n2, hu2⟩; have hu2' := hu2.symm; subst hu2'; rw [HF.out]; have d0 := hc0 n n2; have d1 := hc2 n n2; clear hc0 hc2 hc
     by_cases hz : 100 < l.size + 1 + d.size
     · have hz' : (100 : Int) < (l.size : Int) + 1 + (d.size : Int) := by omega
       rw [if_pos hz] at HC; clear hz; go_wp2; go_ret; exact ⟨jc (by rw [HC.out]; rfl), by first | exact qa (qa HN.out _) _ | exact qa HN.out _⟩
     · have hz' : ¬ (100 : Int) < (l.size : Int) + 1 + (d.size : Int) := by omega
       rw [if_neg hz] at HC; clear hz; go_wp2; go_ret; exact ⟨jc (by rw [HC.out]; rfl), by first | exact qa (qa HN.out _) _ | exact qa HN.out _⟩
end Go.Proofs.YtmgdnhjemhhleaaGreatDoor
