/-
  What a session does that hands a letter over: the walk.
-/
import Derived.Test.YtkdmccgfehmoaaaLmHand
namespace Go.Proofs.Ytkdmccgfehmoaaa
open Go.RowKit Go.Proofs

set_option maxHeartbeats 4000000 in
set_option maxRecDepth 100000 in
theorem handOver_any (n b B : Nat) (s : Ses) (w : World) (h : SesW w b B s (.slice none 0 0)) (hn : n ≤ b) (h5 : s.to.length ≤ 1000) :
    Calls Try.prog 27 #[.pointer (some ⟨b, 0, none⟩)] w (RdP n b B w.heap.size w (atS 1, lettersM s)) := by
  obtain ⟨v, hs, ho⟩ := h
  obtain ⟨av, cv, rfl⟩ := ho.slice
  obtain ⟨⟨x0, x1, x2, x3, x4, x5, x6⟩, hfz⟩ := lm_box7 hs
  obtain ⟨i0, hi', hz0, hz1, hz2⟩ := info_parts infoLt
  have HS := hid hs
  have HO := hid ho
  have HNW := hid (show n ≤ w.heap.size from Nat.le_trans hn (Nat.le_of_lt (SB.lt hs)))
  clear hs ho hfz
  go_enter Try.func27, Try.ntmps27
  go_wp2
  go_loopw [10] (fun q wr => ∃ (i : Nat) (lv : Value), i ≤ s.to.length ∧ q = .int .i64 i ∧ Hid (SB wr b s (.slice av s.to.length cv) lv) ∧ Hid (OwnL wr B (.slice av s.to.length cv) s.to) ∧ Hid (OwnT wr w.heap.size lv ((lettersM s).take i)) ∧ Hid (Below n w wr)) (fun q _ => s.to.length - (intOf q).toNat)
  case atStart => exact ⟨0, _, Nat.zero_le _, rfl, HS, HO, OwnT.nil _ _, Below.refl _ _⟩
  case round =>
    obtain ⟨i, lv, hi, rfl, HSR, HOR, HTR, HBR⟩ := hrel
    clear x0 x1 x2 x3 x4 x5 x6
    by_cases hlt : i < s.to.length
    · have i1 : (i : Int) < (s.to.length : Int) := by omega
      have i0' : (0 : Int) ≤ (i : Int) := by omega
      obtain ⟨x, hx⟩ : ∃ x, s.to[i]? = some x := ⟨_, List.getElem?_eq_getElem hlt⟩
      obtain ⟨p, o, rfl, _, _, e0, e1⟩ := adr_get (HOR.out.row (by unfold maxLen; omega)) hx
      obtain ⟨al, cl, rfl⟩ := HTR.out.slice
      have HLL := hid (letters_len s i hi)
      rw [HLL.out] at HSR HTR
      have HLG := hid (letters_get hx)
      obtain ⟨W2, hW2⟩ : ∃ W2, W2 = wr.alloc (.cells #[.string (S x.1), .string (S x.2)] 23) := ⟨_, rfl⟩
      have HWE2 := hid hW2
      have hB2 : Below wr.heap.size wr W2 := by rw [hW2]; exact (Below.refl _ _).alloc (Nat.le_refl _) _
      obtain ⟨m0, m1⟩ := adr_box (show W2.heap[wr.heap.size]? = some (.cells #[.string (S x.1), .string (S x.2)] 23) by rw [hW2]; exact heap_alloc_new wr _)
      have HS2 := hid (show SB W2 b s (.slice (some ⟨p, o, none⟩) s.to.length cv) (.slice al i cl) from lm_next hB2 HSR.out)
      have HO2 := hid (own_next HOR.out hB2)
      have HT2 := hid (ownT_next HTR.out hB2)
      have HB2 := hid (show Below n w W2 from HBR.out.trans (hB2.mono (Nat.le_trans hn (Nat.le_of_lt (SB.lt HSR.out)))))
      obtain ⟨⟨y0, y1, y2, y3, y4, y5, y6⟩, hgz⟩ := lm_box7 HS2.out
      have g6 := hgz 6
      have HBB := hid (SB.lt HS2.out)
      have HNE := hid (ownT_ne HT2.out HS2.out)
      have HBW := hid (show w.heap.size ≤ W2.heap.size from HB2.out.size)
      have HTL := hid (show OwnT W2 w.heap.size (.slice al i cl) ((lettersM s).take i) = W2.ownsRow w.heap.size 50 5 (.slice al i cl) i (cellsT ((lettersM s).take i)) by unfold OwnT; rw [HLL.out])
      have HT3 := hid (show W2.ownsRow w.heap.size 50 5 (.slice al i cl) i (cellsT ((lettersM s).take i)) by rw [← HTL.out]; exact HT2.out)
      have y1a : ∀ o : Obj, (W2.alloc o).cell? ⟨b, 1, none⟩ = some (.string (S s.frm.1)) := fun o => wcell_more y1 o
      have y2a : ∀ o : Obj, (W2.alloc o).cell? ⟨b, 2, none⟩ = some (.string (S s.frm.2)) := fun o => wcell_more y2 o
      have y4a : ∀ o : Obj, (W2.alloc o).cell? ⟨b, 4, none⟩ = some (.string (S s.text)) := fun o => wcell_more y4 o
      have y6a : ∀ o : Obj, (W2.alloc o).cell? ⟨b, 6, none⟩ = some (.slice al i cl) := fun o => wcell_more y6 o
      have m0a : ∀ o : Obj, (W2.alloc o).cell? ⟨wr.heap.size, 0, none⟩ = some (.string (S x.1)) := fun o => wcell_more m0 o
      have m1a : ∀ o : Obj, (W2.alloc o).cell? ⟨wr.heap.size, 1, none⟩ = some (.string (S x.2)) := fun o => wcell_more m1 o
      clear hx hW2 hB2 hgz HTL
      go_wp2
      rw [← HWE2.out]
      go_region_law
        (first
          | (refine step_append_lies _ (by rfl) _ _ _ (by rfl) w.heap.size 50 i0 _ 5 80 Try.underlying32 hi' hz0 hz1 hz2 rfl (by omega) (.slice al i cl) i (cellsT ((lettersM s).take i)) (by rfl) (by first | exact World.ownsRow.alloc (show World.ownsRow W2.drew _ _ _ _ _ _ from HT3.out) _ | exact (World.ownsRow.alloc HT3.out _).drew)
               ⟨W2.heap.size, 0, none⟩ 1 1 (ltrC (s.frm, x, s.text)) (by rfl) (by rfl) (by first | exact five_new W2.drew _ _ _ _ _ _ _ rfl | exact five_new W2 _ _ _ _ _ _ _ rfl) (by simp [ltrC, Value.oneCell']) (by omega) (by unfold maxLen; omega) (by omega) (by have := HBW.out; simp; omega) _ rfl ?_
             intro gm cap w5 hown5 hgrow hat hlt5
             have z6 := hgrow.cell (a := ⟨b, 6, none⟩) (wcell_more (w := W2.drew) y6 _) HNE.out
             have HWA := hid (show Below W2.heap.size W2 (W2.drew.alloc (.cells #[.string (S s.frm.1), .string (S s.frm.2), .string (S x.1), .string (S x.2), .string (S s.text)] 50)) from (Below.refl _ W2).drew.alloc (Nat.le_refl _) _)
             have hb5 := (hgrow.block b (Nat.lt_of_lt_of_le HBB.out HWA.out.size) HNE.out).trans (lm_next HWA.out HS2.out)
             have zf6 := lm_frz hb5 6
             have hown6 : w5.ownsRow w.heap.size 50 5 (.slice (some ⟨gm, 0, none⟩) (((lettersM s).take i).length + 1) cap) (((lettersM s).take i).length + 1) (cellsT ((lettersM s).take i) ++ ltrC (s.frm, x, s.text)) := HLL.out.symm ▸ hown5
             have HEN := hid (hand_end HS2.out HO2.out HT2.out hn HNW.out HB2.out HWA.out hgrow hown6)
             clear hown5 hown6 hgrow hat hb5)
          | fail)
      all_goals
        rw [HLL.out] at HEN
        have HF1 := hid HEN.out.1
        have HF2 := hid HEN.out.2.1
        have HF3 := hid (show OwnT _ w.heap.size _ ((lettersM s).take (i + 1)) by rw [HLG.out]; exact HEN.out.2.2.1)
        have HF4 := hid HEN.out.2.2.2
        clear HEN
        go_wp2
        go_roundw
        case rel => first | exact ⟨i + 1, _, by omega, by go_num, HF1, HF2, HF3, HF4⟩ | ((repeat apply Exists.intro); exact ⟨⟨i + 1, _, by omega, by go_num, HF1, HF2, HF3, HF4⟩, rfl⟩) | (refine ⟨trivial, ?_⟩; (repeat apply Exists.intro); exact ⟨⟨i + 1, _, by omega, by go_num, HF1, HF2, HF3, HF4⟩, rfl⟩)
        case measure => simp [intOf]; omega
    · have i1 : ¬ (i : Int) < (s.to.length : Int) := by omega
      have HLE := hid (show (lettersM s).take i = lettersM s by rw [List.take_of_length_le]; unfold lettersM; rw [List.length_map]; omega)
      have HBC := hid (become_raw b 1 s _ lv wr HSR.out)
      have HE := hid (show RdP n b B w.heap.size w (atS 1, lettersM s) (.returned (.tuple #[])) (sesAt wr b 1) from ⟨rfl, lv, ⟨_, sesAt_box HSR.out 1, OwnL.nil _ _⟩, by rw [HLE.out] at HTR; exact ownT_at HTR.out HSR.out 1, HBR.out.trans (sesAt_low _ hn 1)⟩)
      go_wp2_with fail
      refine HBC.out.mono ?_
      rintro e u2 ⟨rfl, hu⟩
      have hu' := hu.symm
      subst hu'
      go_wp2
      go_end0
      exact HE.out
end Go.Proofs.Ytkdmccgfehmoaaa
