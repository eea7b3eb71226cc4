/-
  What the reader's block does, over what its command does, and readScript: the walks.
-/
import Derived.Test.YtlfgemnmfhknfaaGreatDoorYQScrRd72
namespace Go.Proofs.YtlfgemnmfhknfaaGreatDoor
open Go.RowKit Go.Proofs
def RdC (n : Nat) : Prop := ∀ (d : Nat) (b : Nat) (A : Option Addr) (C : Nat) (L r : List Tok) (w : World), RdS w b A C L r → WordsAt w → 3 < b → r.length + 1 < n → d ≤ 7 →
    Calls Tryz.prog 132 #[.pointer (some ⟨b, 0, none⟩), .int .i64 d] w (Rp b w A C L (fun c w' v => CmdR (newB w.heap.size) (n + 1) c w' v) (cmdP n true d r))
def RdBr (n : Nat) : Prop := ∀ (d : Nat) (b : Nat) (A : Option Addr) (C : Nat) (L r : List Tok) (w : World), RdS w b A C L r → WordsAt w → 3 < b → r.length + 1 < n → d ≤ 6 →
    Calls Tryz.prog 162 #[.pointer (some ⟨b, 0, none⟩), .int .i64 d] w (Rp b w A C L (fun c w' v => CmdR (newB w.heap.size) (n + 1) c w' v) (cmdP n false d r))
theorem jiO {Q : Nat → Prop} {n : Nat} {w : World} {t : Cmd} {cs : List Value} (h : CmdM Q n w t cs) : cs.length = 12 := by
  obtain ⟨_, _, _, _, _, _, _, _, _, _, _, _, _, _, rfl, _⟩ := zH h; rfl
theorem jgR {f : List Tok → Rdg Cmd} {m : Nat} {acc : List Cmd} : qF f (m + 1) acc [] = .error (misP []) := rfl
theorem jeN {f : List Tok → Rdg Cmd} {m : Nat} {acc : List Cmd} {r q : List Tok} (h : zi 5 [125] r = some q) : qF f (m + 1) acc r = .ok (acc, q) := by rw [qF, h]
theorem jhI {f : List Tok → Rdg Cmd} {m : Nat} {acc : List Cmd} {t : Tok} {r : List Tok} (h : zi 5 [125] (t :: r) = none) : qF f (m + 1) acc (t :: r) = jl (f (t :: r)) fun c q => qF f m (acc ++ [c]) q := by
  rw [qF, h]; rfl
theorem jgQ {f : List Tok → Rdg Cmd} {m : Nat} {acc : List Cmd} {t : Tok} {r : List Tok} : vF f (m + 1) acc (t :: r) = jl (f (t :: r)) fun c q => vF f m (acc ++ [c]) q := rfl
set_option maxHeartbeats 8000000 in
set_option maxRecDepth 100000 in
theorem jeb (n : Nat) (ih : RdC n) (d b : Nat) (A : Option Addr) (C : Nat) (L r : List Tok) (w : World) (h : RdS w b A C L r) (hw : WordsAt w) (hG : 3 < b) (hn : r.length < n) (hd : d ≤ 7) :
    Calls Tryz.prog 197 #[.pointer (some ⟨b, 0, none⟩), .int .i64 d] w (Rp b w A C L (fun l w' v => CmdsM (newB w.heap.size) (n + 1) w' v l) (zw (cmdP n true d) r)) := by
  have H := hid h; have HW := hid hw; have HIH := hid ih; have hbl := h.lt; have hsm := h.small; obtain ⟨i0, hi, hz0, hz1, hz2⟩ := info_parts jij; clear h hw ih; go_enter Tryz.func197, Tryz.ntmps197; go_wp2_with fail; refine (j5 b A C L r 5 [123] w H.out (by omega)).mono ?_; cases h40 : ju 5 [123] r with
  | error m =>
    have HE := hid (show zw (cmdP n true d) r = .error m by unfold zw; rw [h40]; rfl); clear h40; rintro e w1 ⟨rfl, hB1⟩; have HB1 := hid hB1; clear hB1; go_wp2; rw [HE.out]; exact ⟨rfl, rfl, HB1.out⟩
  | ok y =>
    obtain ⟨u0, q0⟩ := y; have hq0 := jG (zv h40); have HL := hid (show zw (cmdP n true d) r = qF (cmdP n true d) (q0.length + 1) [] q0 by unfold zw; rw [h40]; rfl); clear h40; rintro e w1 ⟨v, rfl, rfl, hR1, hB1⟩; have HR1 := hid hR1; have HB1 := hid hB1; clear hR1 hB1; go_wp2
    go_loopw [5] (fun v wr => ∃ (acc : List Cmd) (q : List Tok) (a0 : Option Addr) (c0 m : Nat), v = .slice a0 acc.length c0 ∧ OwnCs w.heap.size (n + 1) wr (.slice a0 acc.length c0) acc ∧ RdS wr b A C L q ∧ q.length < m ∧ q.length + 1 < n ∧ acc.length + q.length ≤ 401 ∧
        Hid (zw (cmdP n true d) r = qF (cmdP n true d) m acc q) ∧ But b w wr) (fun _ wr => vJ b L.length wr)
    case atStart => exact ⟨[], q0, none, 0, q0.length + 1, rfl, OwnRow.nil _ _ _ _ _, HR1.out, by omega, by omega, by have := HR1.out.len; simp; omega, HL, HB1.out⟩
    case round =>
      obtain ⟨acc, q, a0, c0, m, rfl, hO, hRr, hqm, hqn, hacc, hN, hBr⟩ := hrel; have HO := hid hO; have HRr := hid hRr; have HBr := hid hBr; have HM := hid (zT hRr); have hszr := hBr.size; clear hO hRr hBr; obtain ⟨m, rfl⟩ : ∃ m', m = m' + 1 := ⟨m - 1, by omega⟩; go_wp2_with fail; refine (jcJ b A C L q wr HRr.out).mono ?_; rintro e w2 ⟨rfl, hb2⟩; have HRr2 := hid (HRr.out.next hb2); have HBr2 := hid (HBr.out.trans (But.of hb2)); have HO2 := hid (HO.out.keep (zS (n + 1)) (But.of hb2) hbl); clear hb2; cases q with
      | nil =>
        have HF := hid (show zw (cmdP n true d) r = .error (misP []) by rw [hN.out, jgR]); have HT := hid (show ju 5 [125] ([] : List Tok) = .error (misP []) from rfl); simp only [List.isEmpty]; go_wp2_with fail; refine (j5 b A C L [] 5 [125] w2 HRr2.out (by omega)).mono ?_; rw [HT.out]; rintro e w3 ⟨rfl, hB3⟩; have HB3 := hid (HBr2.out.trans hB3); clear hB3; go_wp2; rw [HF.out]; exact ⟨rfl, rfl, HB3.out⟩
      | cons t q =>
        simp only [List.isEmpty]; go_wp2_with fail; refine (jcP b A C L (t :: q) 5 [125] w2 HRr2.out (by omega)).mono ?_; rintro e w3 ⟨rfl, hb3⟩; have HR3 := hid (HRr2.out.next hb3); have HB3 := hid (HBr2.out.trans (But.of hb3)); have HO3 := hid (HO2.out.keep (zS (n + 1)) (But.of hb3) hbl); have HW3 := hid (HW.out.but HB3.out hG); clear hb3; cases hs : zi 5 [125] (t :: q) with
        | some q3 =>
          have HF := hid (show zw (cmdP n true d) r = .ok (acc, q3) by rw [hN.out, jeN hs]); have HT := hid (show ju 5 [125] (t :: q) = .ok ((), q3) by unfold ju; rw [hs]); clear hs; simp only [Option.isSome]; go_wp2_with fail; refine (j5 b A C L (t :: q) 5 [125] w3 HR3.out (by omega)).mono ?_; rw [HT.out]; rintro e w4 ⟨v, rfl, rfl, hR4, hB4⟩; have HR4 := hid hR4; have HB4 := hid (HB3.out.trans hB4); have HV := hid (show CmdsM (newB w.heap.size) (n + 1) w4 (.slice a0 acc.length c0) acc from (HO3.out.keep (zS (n + 1)) hB4 hbl).rowM (zS (n + 1)) (by unfold maxLen; omega)); clear hR4 hB4; go_wp2; go_ret; rw [HF.out]; exact ⟨_, rfl, HV.out, HR4.out, HB4.out⟩
        | none =>
          have HE := hid (show zw (cmdP n true d) r = jl (cmdP n true d (t :: q)) fun c q => qF (cmdP n true d) m (acc ++ [c]) q by rw [hN.out, jhI hs]); clear hs; simp only [Option.isSome]; go_wp2_with fail; refine (HIH.out d b A C L (t :: q) w3 HR3.out HW3.out hG (by omega) hd).mono ?_; cases ht : cmdP n true d (t :: q) with
          | error mm =>
            have HF := hid (show zw (cmdP n true d) r = .error mm by rw [HE.out, ht]; rfl); clear ht; rintro e w4 ⟨rfl, hB4⟩; have HB4 := hid (HB3.out.trans hB4); clear hB4; go_wp2; rw [HF.out]; exact ⟨rfl, rfl, HB4.out⟩
          | ok y =>
            obtain ⟨x2, q2⟩ := y; have hq2 := jde _ _ _ _ _ _ ht; have HF := hid (show zw (cmdP n true d) r = qF (cmdP n true d) m (acc ++ [x2]) q2 by rw [HE.out, ht]; rfl); clear ht; rintro e w4 ⟨v, rfl, ⟨cs2, rfl, hT4⟩, hR4, hB4⟩; obtain ⟨ax, cx, an, cn, ak, ck, at', ct, aa, ca, ae, ce, m02, _, rfl, _⟩ := zH hT4; have HR4 := hid hR4; have HB4 := hid (HB3.out.trans hB4); obtain ⟨css, h1, h2, h3, h4⟩ := HO3.out.keep (zS (n + 1)) hB4 hbl; have hrow3 : ∀ k, (Value.slice a0 acc.length c0).ownBlock = some k → k < w3.heap.size := fun k hk => by
              obtain ⟨_, g1, _⟩ := HO3.out; exact (World.ownsRow.lt g1 k hk).2
            have hsz4 := HB4.out.size; have hsz34 := hB4.size; have hsz3 := HB3.out.size; have HX := hid (show CmdM (rowQ w.heap.size w4 (.slice a0 acc.length c0)) (n + 1) w4 x2 [.int .i64 x2.kind, .slice ax x2.texts.length cx, .int .i64 x2.test.kind, .int .i64 x2.test.mat, .int .i64 x2.test.part, .slice an x2.test.names.length cn, .slice ak x2.test.keys.length ck, .bool x2.test.over, .int .i64 x2.test.limit, .slice at' x2.test.tests.length ct, .slice aa x2.thn.length ca, .slice ae x2.els.length ce] from CmdM.imp (fun k hk => by
              have e1 : w3.heap.size ≤ k := hk.1; have e2 : k < w4.heap.size := hk.2; exact ⟨by omega, e2, fun e => by have := hrow3 k e.symm; omega⟩) (Keeps.refl _ _) _ _ _ (CmdM.both _ _ _ hT4))
            have hlen2 := jiO hT4; have hone2 := jiD hT4; have H2 := hid h2; have H3 := hid h3; have H4 := hid h4; clear hR4 hB4 hT4 h2 h3 h4
            go_wp2_with (at_builtin; refine wpList_append_lies _ rfl _ _ 107 rfl w.heap.size 213 i0 _ 12 192 Tryz.underlying107 hi hz0 hz1 hz2 rfl (by decide) (.slice a0 acc.length c0) acc.length css.flatten rfl (World.ownsRow.alloc h1 _) ⟨w4.heap.size, 0, none⟩ 1 1 [.int .i64 x2.kind, .slice ax x2.texts.length cx, .int .i64 x2.test.kind, .int .i64 x2.test.mat, .int .i64 x2.test.part, .slice an x2.test.names.length cn, .slice ak x2.test.keys.length ck, .bool x2.test.over, .int .i64 x2.test.limit, .slice at' x2.test.tests.length ct, .slice aa x2.thn.length ca, .slice ae x2.els.length ce] rfl rfl (jmc _ _ _) hone2 (by omega) ?c3 ?c4 ?c5 _ rfl ?_)
            case c3 => unfold maxLen; omega
            case c4 => omega
            case c5 => simp; omega
            intro g cap w5 hown' hgrow hat hlt5; have hgal : w4.grownBy w5 (Value.slice a0 acc.length c0).ownBlock := ⟨hgrow.os, hgrow.tape, hgrow.output, by have := hgrow.size; simp at this; omega, fun k hk hn => (hgrow.block k (by simp; omega) hn).trans (by
              show (w4.heap.push _)[k]? = _
              rw [Array.getElem?_push_lt hk, Array.getElem?_eq_getElem hk])⟩
            have HO5 := hid (show OwnCs w.heap.size (n + 1) w5 (.slice (some ⟨g, 0, none⟩) (acc.length + 1) cap) (acc ++ [x2]) from
              OwnRow.more (zS (n + 1)) (v := .slice a0 acc.length c0) (H := w4.heap.size + 1) H2.out H3.out H4.out HX.out rfl hown' hgal (by
                rcases hat with e | e
                · exact .inl e.symm
                · exact .inr (by rw [e]; simp [Value.ownBlock])) (by omega))
            have hBb : Below w.heap.size w4 w5 := ((Below.refl _ _).alloc hsz4 _).grown hgrow (by simp; omega) (fun j hj => (World.ownsRow.lt h1 j hj).1); have HR5 := hid (HR4.out.under hBb hbl); have HB5 := hid (HB4.out.low hBb); have HD := hid (show vJ b L.length w5 < vJ b L.length wr by rw [zT HR5.out, HM.out]; simp at hq2 ⊢; omega); clear hown' hgrow hBb h1 hgal hat; go_wp2; exact ⟨⟨acc ++ [x2], q2, some ⟨g, 0, none⟩, cap, m, by first | rfl | simp, by simpa using HO5.out, HR5.out, by simp at hq2 hqm; omega, by simp at hq2 hqn; omega, by simp at hq2 hacc ⊢; omega, HF, HB5.out⟩, HD.out⟩
end Go.Proofs.YtlfgemnmfhknfaaGreatDoor
