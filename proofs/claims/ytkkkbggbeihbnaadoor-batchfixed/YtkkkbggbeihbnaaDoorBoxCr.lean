/-
  A box is made; an entry goes out: the walks of the store's create and spool.
-/
import Derived.Test.YtkkkbggbeihbnaaDoorBoxAd
namespace Go.Proofs.YtkkkbggbeihbnaaDoor
open Go.RowKit Go.Proofs

theorem hex_new (w : World) (a b c d e f : Value) (t : TypeId) : ∀ j u, [a, b, c, d, e, f][j]? = some u → (w.alloc (.cells #[a, b, c, d, e, f] t)).cell? ((⟨w.heap.size, 0, none⟩ : Addr).add j) = some u := by
  intro j u hj
  rw [Addr.add_lit]
  have := heap_alloc_new w (.cells #[a, b, c, d, e, f] t)
  simp only [World.cell?, this, Nat.zero_add]
  simpa using hj
theorem hex_at (w : World) (n : Nat) (hn : w.heap.size = n) (a b c d e f : Value) (t : TypeId) : ∀ j u, [a, b, c, d, e, f][j]? = some u → (w.alloc (.cells #[a, b, c, d, e, f] t)).cell? ((⟨n, 0, none⟩ : Addr).add j) = some u := by
  subst hn
  exact hex_new w a b c d e f t
set_option maxHeartbeats 1000000 in
set_option maxRecDepth 100000 in
theorem create_any (B p : Nat) (s : Stt) (nm : List UInt8) (w : World) (h : Sto B p w s) (hM : May s) :
    Calls Tryd.prog 44 #[.pointer (some ⟨p, 0, none⟩), .string (S nm)] w (DoP B p w (if (s.boxes.findIdx? (isName nm)).isSome then .error 10 else if 5 ≤ s.boxes.length then .error 5 else .ok ⟨s.boxes ++ [⟨nm, 1, []⟩], s.spool⟩)) := by
  obtain ⟨vb, vs, vm, hp, hO, hn, hBp⟩ := h
  obtain ⟨ab, cb, rfl⟩ := own_slice hO.boxes
  obtain ⟨r, hr⟩ : ∃ r : Except Int Stt, r = (if (s.boxes.findIdx? (isName nm)).isSome then .error 10 else if 5 ≤ s.boxes.length then .error 5 else .ok ⟨s.boxes ++ [⟨nm, 1, []⟩], s.spool⟩) := ⟨_, rfl⟩
  rw [← hr]
  obtain ⟨p0, p1, q0, q1⟩ := box2f hp
  have hBw : B ≤ w.heap.size := by have := (Array.getElem?_eq_some_iff.1 hp).1; omega
  have hSt := hO.stt (Q := fun _ => True) hM (fun _ _ => trivial)
  have HIX := hid (indexOfBox_any s.boxes nm ab cb w _ hSt.1)
  have HG := hid (idx_ge (q := isName nm) (l := s.boxes))
  have HR := hid hr
  have h5 := hM.boxes
  have HP0 := hid hp
  have HO0 := hid hO
  have HN0 := hid hn
  clear hr hp hO hn hSt hM
  cases hf : (s.boxes.findIdx? (isName nm)).isSome with
  | true =>
    rw [hf] at HR HG
    have HE := hid (show ∀ u, Below w.heap.size w u → DoP B p w r (.returned (.int .i64 10)) u from fun u hu => by rw [HR.out]; exact ⟨hu.mono hBw, rfl⟩)
    clear hf HR
    generalize idxZ (isName nm) s.boxes = z at *
    have hz : 0 ≤ z := of_decide_eq_true HG.out
    go_enter Tryd.func44, Tryd.ntmps44
    go_wp2_with fail
    refine HIX.out.mono ?_
    rintro e w1 ⟨rfl, hb1⟩
    have HE1 := hid (HE.out w1 hb1)
    clear hb1
    go_wp2
    go_ret
    exact HE1.out
  | false =>
    rw [hf] at HR HG
    clear hf
    generalize idxZ (isName nm) s.boxes = z at *
    have hz : ¬ 0 ≤ z := of_decide_eq_false HG.out
    simp only [Bool.false_eq_true, if_false] at HR
    by_cases h5' : 5 ≤ s.boxes.length
    · have h5i : (5 : Int) ≤ (s.boxes.length : Int) := by omega
      rw [if_pos h5'] at HR
      have HE := hid (show ∀ u, Below w.heap.size w u → DoP B p w r (.returned (.int .i64 5)) u from fun u hu => by rw [HR.out]; exact ⟨hu.mono hBw, rfl⟩)
      go_enter Tryd.func44, Tryd.ntmps44
      go_wp2_with fail
      refine HIX.out.mono ?_
      rintro e w1 ⟨rfl, hb1⟩
      have HE1 := hid (HE.out w1 hb1)
      have y0 := wcell_next p0 hb1
      clear hb1
      go_wp2
      go_ret
      exact HE1.out
    · have h5i : ¬ (5 : Int) ≤ (s.boxes.length : Int) := by omega
      rw [if_neg h5'] at HR
      obtain ⟨i0, hi', hz0, hz1, hz2⟩ := info_parts infoBx
      go_enter Tryd.func44, Tryd.ntmps44
      go_wp2_with fail
      refine HIX.out.mono ?_
      rintro e w1 ⟨rfl, hb1⟩
      have y0 := wcell_next p0 hb1
      have yf0 := low_frozen q0 p0 hb1
      have HW1 := hid hb1
      have HOM := hid (own_low HO0.out.boxes hb1)
      have hs1 := hb1.size
      have hpl : p < w1.heap.size := World.block_lt_of_cell? _ _ y0
      have hpn : some p ≠ (Value.slice ab s.boxes.length cb).ownBlock := fun e => HN0.out (.inl e.symm)
      clear hb1
      go_wp2_with (first
        | (at_builtin; refine wpList_append_lies _ rfl _ _ 26 rfl B 65 i0 _ 3 48 Tryd.underlying26 hi' hz0 hz1 hz2 rfl (by omega) (.slice ab s.boxes.length cb) s.boxes.length ((bxCs s.boxes vm).flatten) rfl (World.ownsRow.alloc HOM.out _) ⟨w1.heap.size, 0, none⟩ 1 1 [.string (S nm), .int .i64 1, .slice none 0 0] rfl rfl (tri_new w1 _ _ _ _) ?c1 (by omega) ?c2 ?c3 ?c4 _ rfl ?_)
        | fail)
      case c1 => simp [Value.oneCell']
      case c2 => unfold maxLen; omega
      case c3 => omega
      case c4 => simp; omega
      intro gm cap w5 hown5 hgrow hat hlt5
      have x0 := hgrow.cell (a := ⟨p, 0, none⟩) (wcell_more y0 _) hpn
      have xf0 : w5.frozen? ⟨p, 0, none⟩ = false := (World.frozen?_of_block (hgrow.block p (by simp; omega) hpn)).trans (low_frozen yf0 y0 ((Below.refl _ _).alloc (Nat.le_refl _) _))
      have HWA := hid (show Below w.heap.size w (w1.alloc (.cells #[.string (S nm), .int .i64 1, .slice none 0 0] 65)) from HW1.out.alloc hs1 _)
      have hEN := create_end HP0.out HO0.out HN0.out hBp HWA.out hgrow hown5 (hat.imp id fun e => by rw [e]; simp)
      have HF := hid (show DoP B p w r (.returned (.int .i64 0)) (w5.setCell ⟨p, 0, none⟩ (.slice (some ⟨gm, 0, none⟩) (s.boxes.length + 1) cap)) by rw [HR.out]; exact ⟨hEN.2, rfl, hEN.1⟩)
      clear hown5 hgrow hat hEN
      go_wp2
      go_ret
      exact HF.out
set_option maxHeartbeats 1000000 in
set_option maxRecDepth 100000 in
theorem spool_any (B p : Nat) (s : Stt) (x : Ent) (w : World) (h : Sto B p w s) (hM : May s) :
    Calls Tryd.prog 45 #[.pointer (some ⟨p, 0, none⟩), .agg #[.int .i64 x.kind, .string (S x.box), .int .i64 x.uid, .int .i64 x.flags, .string (S x.goal), .string (S x.text)]] w (DoP B p w (if 20 ≤ s.spool.length then .error 5 else .ok ⟨s.boxes, s.spool ++ [x]⟩)) := by
  obtain ⟨vb, vs, vm, hp, hO, hn, hBp⟩ := h
  obtain ⟨as', cs', rfl⟩ := own_slice hO.spool
  obtain ⟨r, hr⟩ : ∃ r : Except Int Stt, r = (if 20 ≤ s.spool.length then .error 5 else .ok ⟨s.boxes, s.spool ++ [x]⟩) := ⟨_, rfl⟩
  rw [← hr]
  obtain ⟨W1, hW1⟩ : ∃ W1, W1 = w.alloc (.cells #[.int .i64 x.kind, .string (S x.box), .int .i64 x.uid, .int .i64 x.flags, .string (S x.goal), .string (S x.text)] 70) := ⟨_, rfl⟩
  have HWE := hid hW1
  have hb1 : Below w.heap.size w W1 := by rw [hW1]; exact (Below.refl _ _).alloc (Nat.le_refl _) _
  have HW1 := hid hb1
  have hX : W1.heap[w.heap.size]? = some (.cells #[.int .i64 x.kind, .string (S x.box), .int .i64 x.uid, .int .i64 x.flags, .string (S x.goal), .string (S x.text)] 70) := by rw [hW1]; exact heap_alloc_new w _
  obtain ⟨x0, x1, x2, x3, x4, x5⟩ : (∀ W : World, W.heap[w.heap.size]? = some (.cells #[.int .i64 x.kind, .string (S x.box), .int .i64 x.uid, .int .i64 x.flags, .string (S x.goal), .string (S x.text)] 70) → W.cell? ⟨w.heap.size, 0, none⟩ = some (.int .i64 x.kind)) ∧ W1.cell? ⟨w.heap.size, 1, none⟩ = some (.string (S x.box)) ∧ W1.cell? ⟨w.heap.size, 2, none⟩ = some (.int .i64 x.uid) ∧ W1.cell? ⟨w.heap.size, 3, none⟩ = some (.int .i64 x.flags) ∧ W1.cell? ⟨w.heap.size, 4, none⟩ = some (.string (S x.goal)) ∧ W1.cell? ⟨w.heap.size, 5, none⟩ = some (.string (S x.text)) := by
    refine ⟨fun W h => ?_, ?_, ?_, ?_, ?_, ?_⟩
    · simp [World.cell?, h]
    all_goals simp [World.cell?, hX]
  have x0 := x0 W1 hX
  have hs1 : W1.heap.size = w.heap.size + 1 := by rw [hW1]; simp
  obtain ⟨p0, p1, q0, q1⟩ := box2f hp
  have y1 := wcell_next p1 hb1
  have yf1 := low_frozen q1 p1 hb1
  have hpl : p < w.heap.size := (Array.getElem?_eq_some_iff.1 hp).1
  have hpne : p ≠ w.heap.size := by omega
  have hBw : B ≤ w.heap.size := by omega
  have HR := hid hr
  have h20 := hM.spool
  have HOM := hid (own_low hO.spool hb1)
  have hpn : some p ≠ (Value.slice as' s.spool.length cs').ownBlock := fun e => hn (.inr (.inl e.symm))
  have HP0 := hid hp
  have HO0 := hid hO
  have HN0 := hid hn
  have HS1 := hid hs1
  clear hr hp hO hn hM hW1 hb1 hX hs1
  by_cases h : 20 ≤ s.spool.length
  · have hi : (20 : Int) ≤ (s.spool.length : Int) := by omega
    rw [if_pos h] at HR
    have HE := hid (show DoP B p w r (.returned (.int .i64 5)) W1 by rw [HR.out]; exact ⟨HW1.out.mono hBw, rfl⟩)
    go_enter Tryd.func45, Tryd.ntmps45
    go_upto_region 1 with fail
    rw [← HWE.out]
    go_wp2
    go_ret
    exact HE.out
  · have hi : ¬ (20 : Int) ≤ (s.spool.length : Int) := by omega
    rw [if_neg h] at HR
    obtain ⟨i0, hi', hz0, hz1, hz2⟩ := info_parts infoEn
    go_enter Tryd.func45, Tryd.ntmps45
    go_upto_region 1 with fail
    rw [← HWE.out]
    have y1a : ∀ o : Obj, (W1.alloc o).cell? ⟨p, 1, none⟩ = some (.slice as' s.spool.length cs') := fun o => wcell_more y1 o
    go_wp2
    go_region_law
      (first
        | (refine step_append_lies _ (by rfl) _ _ _ (by rfl) B 70 i0 _ 6 72 Tryd.underlying27 hi' hz0 hz1 hz2 rfl (by omega) (.slice as' s.spool.length cs') s.spool.length ((s.spool.map entC).flatten) (by rfl) (by first | exact World.ownsRow.alloc (show World.ownsRow W1.drew _ _ _ _ _ _ from HOM.out) _ | exact (World.ownsRow.alloc HOM.out _).drew)
             ⟨W1.heap.size, 0, none⟩ 1 1 (entC x) (by rfl) (by rfl) (by first | exact hex_new W1.drew _ _ _ _ _ _ _ | exact hex_new W1 _ _ _ _ _ _ _) (by simp [entC, Value.oneCell']) (by omega) (by unfold maxLen; omega) (by omega) (by have := HS1.out; simp; omega) _ rfl ?_
           intro gm cap w5 hown5 hgrow hat hlt5
           have z1 := hgrow.cell (a := ⟨p, 1, none⟩) (wcell_more (w := W1.drew) y1 _) hpn
           have zf1 : w5.frozen? ⟨p, 1, none⟩ = false := (World.frozen?_of_block (hgrow.block p (by have := HS1.out; simp; omega) hpn)).trans (low_frozen (w := W1.drew) yf1 y1 ((Below.refl _ _).alloc (Nat.le_refl _) _))
           have HWA := hid (show Below w.heap.size w (W1.drew.alloc (.cells #[.int .i64 x.kind, .string (S x.box), .int .i64 x.uid, .int .i64 x.flags, .string (S x.goal), .string (S x.text)] 70)) from HW1.out.drew.alloc HW1.out.size _)
           have HEN := hid (spool_end HP0.out HO0.out HN0.out hBp HWA.out hgrow hown5 hat)
           clear hown5 hgrow hat)
        | fail)
    all_goals
      have HF := hid (show DoP B p w r (.returned (.int .i64 0)) (w5.setCell ⟨p, 1, none⟩ (.slice (some ⟨gm, 0, none⟩) (s.spool.length + 1) cap)) by rw [HR.out]; exact ⟨HEN.out.2, rfl, HEN.out.1⟩)
      go_wp2
      go_ret
      exact HF.out
end Go.Proofs.YtkkkbggbeihbnaaDoor
