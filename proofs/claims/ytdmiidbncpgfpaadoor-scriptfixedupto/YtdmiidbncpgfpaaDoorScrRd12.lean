/-
  What readScript does: the walk.
-/
import Derived.Test.YtdmiidbncpgfpaaDoorScrRd11
namespace Go.Proofs.YtdmiidbncpgfpaaDoor
open Go.RowKit Go.Proofs

/-- What readScript does: it hands commands back, or it panics. -/
def Sc (w : World) (L : List Tok) (x : Rdg (List Cmd)) (e : Ending) (w' : World) : Prop :=
  match x with
  | .ok (l, _) => ∃ a c, e = .returned (.slice a l.length c) ∧ CmdsM (newB w.heap.size) (L.length + 3) w' (.slice a l.length c) l ∧ Below w.heap.size w w'
  | .error m => e = .panicked (misPanic L m) ∧ Below w.heap.size w w'
theorem But.lowB {b : Nat} {w w' : World} (h : But b w w') (hb : b ≤ w.heap.size) : Below b w w' := ⟨h.os, h.tape, h.output, h.size, fun k hk => h.block k (by omega) (by omega)⟩

set_option maxHeartbeats 8000000 in
set_option maxRecDepth 100000 in
theorem rscript_any (A : Option Addr) (C : Nat) (L : List Tok) (w : World) (hL : ToksAt w A L) (hsm : L.length ≤ 400) (hw : WordsAt w) :
    Calls Tryd.prog 24 #[.slice A L.length C] w (Sc w L (scriptR L)) := by
  have hG := hw.pos
  obtain ⟨W0, hW0⟩ : ∃ W0, W0 = w.alloc (.cells #[.slice A L.length C, .int .i64 0] 69) := ⟨_, rfl⟩
  have hal : Below w.heap.size w W0 := by rw [hW0]; exact (Below.refl _ _).alloc (Nat.le_refl _) _
  have hbl : w.heap.size < W0.heap.size := by rw [hW0]; simp
  have HR0 := hid (show RdS W0 w.heap.size A C L L from ⟨by rw [hW0, heap_alloc_new]; simp, hL.below hal, fun i x hx q o ha => by
    obtain ⟨b, o', ha', hb, _⟩ := hL i x hx
    rw [ha] at ha'
    cases ha'
    exact hb, ⟨[], rfl⟩, hsm⟩)
  have HW := hid (hw.next hal)
  have HAL := hid hal
  have HWE := hid hW0
  have HIH := hid (rcmd_any (L.length + 2)).1
  obtain ⟨i0, hi, hz0, hz1, hz2⟩ := info_parts infoCmd
  have HL := hid (show scriptR L = scriptF (cmdP (L.length + 2) true 0) L.length [] L from rfl)
  clear hL hw hW0 hal
  go_enter Tryd.func24, Tryd.ntmps24
  go_wp2
  rw [← HWE.out]
  go_loopw [4] (fun v wr => ∃ (acc : List Cmd) (q : List Tok) (a0 : Option Addr) (c0 m : Nat), v = .slice a0 acc.length c0 ∧ OwnCs W0.heap.size (L.length + 3) wr (.slice a0 acc.length c0) acc ∧ RdS wr w.heap.size A C L q ∧ q.length ≤ m ∧ q.length ≤ L.length ∧ acc.length + q.length ≤ 401 ∧
      Hid (scriptR L = scriptF (cmdP (L.length + 2) true 0) m acc q) ∧ But w.heap.size W0 wr) (fun _ wr => restS w.heap.size L.length wr)
  case atStart => exact ⟨[], L, none, 0, L.length, rfl, OwnRow.nil _ _ _ _ _, HR0.out, Nat.le_refl _, Nat.le_refl _, by simp; omega, HL, But.refl _ _⟩
  case round =>
      obtain ⟨acc, q, a0, c0, m, rfl, hO, hRr, hqm, hqn, hacc, hN, hBr⟩ := hrel
      have HO := hid hO
      have HRr := hid hRr
      have HBr := hid hBr
      have HM := hid (restS_is hRr)
      have hszr := hBr.size
      clear hO hRr hBr
      go_wp2_with fail
      refine (rended_any w.heap.size A C L q wr HRr.out).mono ?_
      rintro e w3 ⟨rfl, hb3⟩
      have HR3 := hid (HRr.out.next hb3)
      have HB3 := hid (HBr.out.trans (But.of hb3))
      have HO3 := hid (HO.out.keep (firm_cmd (L.length + 3)) (But.of hb3) hbl)
      have HW3 := hid (HW.out.but HB3.out hG)
      clear hb3
      cases q with
      | nil =>
        have HF := hid (show scriptR L = .ok (acc, []) by rw [hN.out]; cases m <;> rfl)
        have HV := hid (show CmdsM (newB w.heap.size) (L.length + 3) w3 (.slice a0 acc.length c0) acc from by
          have := HO3.out.rowM (firm_cmd (L.length + 3)) (by unfold maxLen; omega)
          have hup : ∀ k, newB' W0.heap.size k → newB w.heap.size k := fun k hk => by have : W0.heap.size ≤ k := hk; show w.heap.size ≤ k; omega
          exact RowM.imp this hup (Keeps.refl _ _) (fun _ _ h => CmdM.imp hup (Keeps.refl _ _) _ _ _ h))
        simp only [List.isEmpty]
        go_wp2
        go_ret
        rw [HF.out]
        exact ⟨_, _, rfl, HV.out, HAL.out.trans (HB3.out.lowB (Nat.le_of_lt hbl))⟩
      | cons t q =>
          obtain ⟨m, rfl⟩ : ∃ m', m = m' + 1 := ⟨m - 1, by simp at hqm; omega⟩
          have HE := hid (show scriptR L = thenR (cmdP (L.length + 2) true 0 (t :: q)) fun c q => scriptF (cmdP (L.length + 2) true 0) m (acc ++ [c]) q by rw [hN.out, scriptF_go])
          simp only [List.isEmpty]
          go_wp2_with fail
          refine (HIH.out 0 w.heap.size A C L (t :: q) w3 HR3.out HW3.out hG (by omega) (by omega)).mono ?_
          cases ht : cmdP (L.length + 2) true 0 (t :: q) with
          | error mm =>
            have HF := hid (show scriptR L = .error mm by rw [HE.out, ht]; rfl)
            clear ht
            rintro e w4 ⟨rfl, hB4⟩
            have HB4 := hid (HB3.out.trans hB4)
            clear hB4
            go_wp2
            rw [HF.out]
            exact ⟨rfl, rfl, HAL.out.trans (HB4.out.lowB (Nat.le_of_lt hbl))⟩
          | ok y =>
            obtain ⟨x2, q2⟩ := y
            have hq2 := cmdP_len _ _ _ _ _ _ ht
            have HF := hid (show scriptR L = scriptF (cmdP (L.length + 2) true 0) m (acc ++ [x2]) q2 by rw [HE.out, ht]; rfl)
            clear ht
            rintro e w4 ⟨v, rfl, ⟨cs2, rfl, hT4⟩, hR4, hB4⟩
            obtain ⟨ax, cx, an, cn, ak, ck, at', ct, aa, ca, ae, ce, m02, _, rfl, _⟩ := cmd_form hT4
            have HR4 := hid hR4
            have HB4 := hid (HB3.out.trans hB4)
            obtain ⟨css, h1, h2, h3, h4⟩ := HO3.out.keep (firm_cmd (L.length + 3)) hB4 hbl
            have hrow3 : ∀ k, (Value.slice a0 acc.length c0).ownBlock = some k → k < w3.heap.size := fun k hk => by
              obtain ⟨_, g1, _⟩ := HO3.out
              exact (World.ownsRow.lt g1 k hk).2
            have hsz4 := HB4.out.size
            have hsz34 := hB4.size
            have hsz3 := HB3.out.size
            have HX := hid (show CmdM (rowQ W0.heap.size w4 (.slice a0 acc.length c0)) (L.length + 3) w4 x2 [.int .i64 x2.kind, .slice ax x2.texts.length cx, .int .i64 x2.test.kind, .int .i64 x2.test.mat, .int .i64 x2.test.part, .slice an x2.test.names.length cn, .slice ak x2.test.keys.length ck, .bool x2.test.over, .int .i64 x2.test.limit, .slice at' x2.test.tests.length ct, .slice aa x2.thn.length ca, .slice ae x2.els.length ce] from CmdM.imp (fun k hk => by
              have e1 : w3.heap.size ≤ k := hk.1
              have e2 : k < w4.heap.size := hk.2
              exact ⟨by omega, e2, fun e => by have := hrow3 k e.symm; omega⟩) (Keeps.refl _ _) _ _ _ (CmdM.both _ _ _ hT4))
            have hlen2 := cmd_len hT4
            have hone2 := cmd_one hT4
            have H2 := hid h2
            have H3 := hid h3
            have H4 := hid h4
            clear hR4 hB4 hT4 h2 h3 h4
            go_wp2_with (at_builtin; refine wpList_append_lies _ rfl _ _ 24 rfl W0.heap.size 55 i0 _ 12 192 Tryd.underlying24 hi hz0 hz1 hz2 rfl (by decide) (.slice a0 acc.length c0) acc.length css.flatten rfl (World.ownsRow.alloc h1 _) ⟨w4.heap.size, 0, none⟩ 1 1 [.int .i64 x2.kind, .slice ax x2.texts.length cx, .int .i64 x2.test.kind, .int .i64 x2.test.mat, .int .i64 x2.test.part, .slice an x2.test.names.length cn, .slice ak x2.test.keys.length ck, .bool x2.test.over, .int .i64 x2.test.limit, .slice at' x2.test.tests.length ct, .slice aa x2.thn.length ca, .slice ae x2.els.length ce] rfl rfl (eight _ _ _) hone2 (by omega) ?c3 ?c4 ?c5 _ rfl ?_)
            case c3 => unfold maxLen; omega
            case c4 => omega
            case c5 => simp; omega
            intro g cap w5 hown' hgrow hat hlt5
            have hgal : w4.grownBy w5 (Value.slice a0 acc.length c0).ownBlock := ⟨hgrow.os, hgrow.tape, hgrow.output, by have := hgrow.size; simp at this; omega, fun k hk hn => (hgrow.block k (by simp; omega) hn).trans (by
              show (w4.heap.push _)[k]? = _
              rw [Array.getElem?_push_lt hk, Array.getElem?_eq_getElem hk])⟩
            have HO5 := hid (show OwnCs W0.heap.size (L.length + 3) w5 (.slice (some ⟨g, 0, none⟩) (acc.length + 1) cap) (acc ++ [x2]) from
              OwnRow.more (firm_cmd (L.length + 3)) (v := .slice a0 acc.length c0) (H := w4.heap.size + 1) H2.out H3.out H4.out HX.out rfl hown' hgal (by
                rcases hat with e | e
                · exact .inl e.symm
                · exact .inr (by rw [e]; simp [Value.ownBlock])) (by omega))
            have hBb : Below W0.heap.size w4 w5 := ((Below.refl _ _).alloc hsz4 _).grown hgrow (by simp; omega) (fun j hj => (World.ownsRow.lt h1 j hj).1)
            have HR5 := hid (HR4.out.under hBb hbl)
            have HB5 := hid (HB4.out.low hBb)
            have HD := hid (show restS w.heap.size L.length w5 < restS w.heap.size L.length wr by rw [restS_is HR5.out, HM.out]; simp at hq2 ⊢; omega)
            clear hown' hgrow hBb h1 hgal hat
            go_wp2
            exact ⟨⟨acc ++ [x2], q2, some ⟨g, 0, none⟩, cap, m, by first | rfl | simp, by simpa using HO5.out, HR5.out, by simp at hq2 hqm; omega, by simp at hq2 hqn; omega, by simp at hq2 hacc ⊢; omega, HF, HB5.out⟩, HD.out⟩
end Go.Proofs.YtdmiidbncpgfpaaDoor
