/-
  What the reader's command does, over its branches: the walk.
-/
import Derived.Test.YtepfniiojjefhaaGreatDoorQScrRd82
namespace Go.Proofs.YtepfniiojjefhaaGreatDoor
open Go.RowKit Go.Proofs

def zero12 : Array Value := #[.int .i64 0, .slice none 0 0, .int .i64 0, .int .i64 0, .int .i64 0, .slice none 0 0, .slice none 0 0, .bool false, .int .i64 0, .slice none 0 0, .slice none 0 0, .slice none 0 0]
theorem put12 (c0 c1 c2 c3 c4 c5 c6 c7 c8 c9 c10 c11 : Value) : putAll zero12 0 [c0, c1, c2, c3, c4, c5, c6, c7, c8, c9, c10, c11] = #[c0, c1, c2, c3, c4, c5, c6, c7, c8, c9, c10, c11] := by simp [putAll, zero12]
theorem cells12 {w : World} {b : Nat} {c0 c1 c2 c3 c4 c5 c6 c7 c8 c9 c10 c11 : Value} {t : TypeId} (h : w.heap[b]? = some (.cells #[c0, c1, c2, c3, c4, c5, c6, c7, c8, c9, c10, c11] t)) : w.cell? ⟨b, 0, none⟩ = some c0 ∧ w.cell? ⟨b, 1, none⟩ = some c1 ∧ w.cell? ⟨b, 2, none⟩ = some c2 ∧ w.cell? ⟨b, 3, none⟩ = some c3 ∧ w.cell? ⟨b, 4, none⟩ = some c4 ∧ w.cell? ⟨b, 5, none⟩ = some c5 ∧ w.cell? ⟨b, 6, none⟩ = some c6 ∧ w.cell? ⟨b, 7, none⟩ = some c7 ∧ w.cell? ⟨b, 8, none⟩ = some c8 ∧ w.cell? ⟨b, 9, none⟩ = some c9 ∧ w.cell? ⟨b, 10, none⟩ = some c10 ∧ w.cell? ⟨b, 11, none⟩ = some c11 := by
  refine ⟨?_, ?_, ?_, ?_, ?_, ?_, ?_, ?_, ?_, ?_, ?_, ?_⟩ <;> simp [World.cell?, h]
theorem free12 {w : World} {b : Nat} {cs : Array Value} {t : TypeId} (h : w.heap[b]? = some (.cells cs t)) (o : Nat) : w.frozen? ⟨b, o, none⟩ = false := by simp [World.frozen?, h]
set_option maxHeartbeats 16000000 in
set_option maxRecDepth 100000 in
theorem rcmd_step (n : Nat) (ih : RdBr n) : RdC (n + 1) := by
  intro d b A C L r w h hw hG hn hd
  have H := hid h
  have HW := hid hw
  have HIH := hid ih
  have hbl := h.lt
  have hsm := h.small
  clear h hw ih
  obtain ⟨W0, hW0⟩ : ∃ W0, W0 = w.alloc (.cells #[.int .i64 0, .slice none 0 0, .int .i64 0, .int .i64 0, .int .i64 0, .slice none 0 0, .slice none 0 0, .bool false, .int .i64 0, .slice none 0 0, .slice none 0 0, .slice none 0 0] 205) := ⟨_, rfl⟩
  have hal : Below w.heap.size w W0 := by rw [hW0]; exact (Below.refl _ _).alloc (Nat.le_refl _) _
  have hlt0 : w.heap.size < W0.heap.size := by rw [hW0]; simp
  have HH0 := hid (show W0.heap[w.heap.size]? = some (.cells zero12 205) by rw [hW0]; exact heap_alloc_new w _)
  have HWE := hid hW0
  have HAL := hid hal
  have hnb : w.heap.size ≠ b := by omega
  clear hW0 hal
  go_enter Tryz.func123, Tryz.ntmps123
  go_wp2_with fail
  rw [← HWE.out]
  refine (rkind_any b A C L r 0 d W0 (H.out.next HAL.out) (by omega) (HW.out.next HAL.out)).mono ?_
  cases hk : kindP 0 d r with
  | error m =>
    have HE := hid (show cmdP (n + 1) true d r = .error m by unfold cmdP; rw [hk]; rfl)
    clear hk
    rintro e w1 ⟨rfl, hB1⟩
    have HB1 := hid ((But.of HAL.out).trans hB1)
    clear hB1
    go_wp2
    rw [HE.out]
    exact ⟨rfl, rfl, HB1.out⟩
  | ok y =>
    obtain ⟨k, q⟩ := y
    have hql := kindP_len hk
    obtain ⟨hd6, hk0, _⟩ := kindP_ok hk
    rintro e w1 ⟨v, rfl, rfl, hR1, hB1⟩
    have HB1 := hid (show But b w w1 from (But.of HAL.out).trans hB1)
    have HR1 := hid hR1
    have HW1 := hid (HW.out.but HB1.out hG)
    have h41 : w1.heap[w.heap.size]? = some (.cells zero12 205) := (hB1.block _ hlt0 hnb).trans HH0.out
    have hlt1 : w.heap.size < w1.heap.size := Nat.lt_of_lt_of_le hlt0 hB1.size
    have hbl1 := hR1.lt
    have H41 := hid h41
    have hn5 : w.heap.size ≠ w1.heap.size := by omega
    have hn5b : w1.heap.size ≠ b := by omega
    clear hR1 hB1 h41
    by_cases k2 : k = 2
    · subst k2
      have HQ := hid (show cmdP (n + 1) true d r = cmdP n false d q by rw [cmdP, hk]; rfl)
      clear hk
      obtain ⟨V1, hV1⟩ : ∃ V1, V1 = w1.alloc (.cells #[.int .i64 2, .slice none 0 0, .int .i64 0, .int .i64 0, .int .i64 0, .slice none 0 0, .slice none 0 0, .bool false, .int .i64 0, .slice none 0 0, .slice none 0 0, .slice none 0 0] 205) := ⟨_, rfl⟩
      have halv : Below w1.heap.size w1 V1 := by rw [hV1]; exact (Below.refl _ _).alloc (Nat.le_refl _) _
      have H5V := hid (show V1.heap[w1.heap.size]? = some (.cells #[.int .i64 2, .slice none 0 0, .int .i64 0, .int .i64 0, .int .i64 0, .slice none 0 0, .slice none 0 0, .bool false, .int .i64 0, .slice none 0 0, .slice none 0 0, .slice none 0 0] 205) by rw [hV1]; exact heap_alloc_new w1 _)
      have hltv : w1.heap.size < V1.heap.size := by rw [hV1]; simp
      have HVE := hid hV1
      have H4V := hid ((halv.block _ hlt1).trans H41.out)
      have HRV := hid (HR1.out.next halv)
      have HBV := hid (HB1.out.trans (But.of halv))
      have HWV := hid (HW1.out.next halv)
      clear hV1 halv
      go_wp2_with fail
      rw [← HVE.out]
      refine (HIH.out d b A C L q V1 HRV.out HWV.out hG (by omega) hd6).mono ?_
      cases hx : cmdP n false d q with
      | error m =>
        have HE := hid (show cmdP (n + 1) true d r = .error m by rw [HQ.out, hx])
        clear hx
        rintro e w2 ⟨rfl, hB2⟩
        have HB2 := hid (HBV.out.trans hB2)
        clear hB2
        go_wp2
        rw [HE.out]
        exact ⟨rfl, rfl, HB2.out⟩
      | ok y =>
        obtain ⟨x2, q2⟩ := y
        have HE := hid (show cmdP (n + 1) true d r = .ok (x2, q2) by rw [HQ.out, hx])
        clear hx
        rintro e w2 ⟨v, rfl, ⟨cs2, rfl, hT⟩, hR2, hB2⟩
        obtain ⟨ax, cx, an, cn, ak, ck, at', ct, aa, ca, ae, ce, m02, _, rfl, _⟩ := cmd_form hT
        have h42 := (hB2.block _ (Nat.lt_trans hlt1 hltv) hnb).trans H4V.out
        have hs2 := hB2.size
        have HT := hid hT
        have H42 := hid h42
        have HR2 := hid hR2
        have HB2 := hid (HBV.out.trans hB2)
        obtain ⟨a0, a1, a2, a3, a4, a5, a6, a7, a8, a9, a10, a11⟩ := cells12 (show w2.heap[w.heap.size]? = some (.cells #[.int .i64 0, .slice none 0 0, .int .i64 0, .int .i64 0, .int .i64 0, .slice none 0 0, .slice none 0 0, .bool false, .int .i64 0, .slice none 0 0, .slice none 0 0, .slice none 0 0] 205) from h42)
        have z0 := free12 (show w2.heap[w.heap.size]? = some (.cells #[.int .i64 0, .slice none 0 0, .int .i64 0, .int .i64 0, .int .i64 0, .slice none 0 0, .slice none 0 0, .bool false, .int .i64 0, .slice none 0 0, .slice none 0 0, .slice none 0 0] 205) from h42) 0
        have z1 := free12 (show w2.heap[w.heap.size]? = some (.cells #[.int .i64 0, .slice none 0 0, .int .i64 0, .int .i64 0, .int .i64 0, .slice none 0 0, .slice none 0 0, .bool false, .int .i64 0, .slice none 0 0, .slice none 0 0, .slice none 0 0] 205) from h42) 1
        have z2 := free12 (show w2.heap[w.heap.size]? = some (.cells #[.int .i64 0, .slice none 0 0, .int .i64 0, .int .i64 0, .int .i64 0, .slice none 0 0, .slice none 0 0, .bool false, .int .i64 0, .slice none 0 0, .slice none 0 0, .slice none 0 0] 205) from h42) 2
        have z3 := free12 (show w2.heap[w.heap.size]? = some (.cells #[.int .i64 0, .slice none 0 0, .int .i64 0, .int .i64 0, .int .i64 0, .slice none 0 0, .slice none 0 0, .bool false, .int .i64 0, .slice none 0 0, .slice none 0 0, .slice none 0 0] 205) from h42) 3
        have z4 := free12 (show w2.heap[w.heap.size]? = some (.cells #[.int .i64 0, .slice none 0 0, .int .i64 0, .int .i64 0, .int .i64 0, .slice none 0 0, .slice none 0 0, .bool false, .int .i64 0, .slice none 0 0, .slice none 0 0, .slice none 0 0] 205) from h42) 4
        have z5 := free12 (show w2.heap[w.heap.size]? = some (.cells #[.int .i64 0, .slice none 0 0, .int .i64 0, .int .i64 0, .int .i64 0, .slice none 0 0, .slice none 0 0, .bool false, .int .i64 0, .slice none 0 0, .slice none 0 0, .slice none 0 0] 205) from h42) 5
        have z6 := free12 (show w2.heap[w.heap.size]? = some (.cells #[.int .i64 0, .slice none 0 0, .int .i64 0, .int .i64 0, .int .i64 0, .slice none 0 0, .slice none 0 0, .bool false, .int .i64 0, .slice none 0 0, .slice none 0 0, .slice none 0 0] 205) from h42) 6
        have z7 := free12 (show w2.heap[w.heap.size]? = some (.cells #[.int .i64 0, .slice none 0 0, .int .i64 0, .int .i64 0, .int .i64 0, .slice none 0 0, .slice none 0 0, .bool false, .int .i64 0, .slice none 0 0, .slice none 0 0, .slice none 0 0] 205) from h42) 7
        have z8 := free12 (show w2.heap[w.heap.size]? = some (.cells #[.int .i64 0, .slice none 0 0, .int .i64 0, .int .i64 0, .int .i64 0, .slice none 0 0, .slice none 0 0, .bool false, .int .i64 0, .slice none 0 0, .slice none 0 0, .slice none 0 0] 205) from h42) 8
        have z9 := free12 (show w2.heap[w.heap.size]? = some (.cells #[.int .i64 0, .slice none 0 0, .int .i64 0, .int .i64 0, .int .i64 0, .slice none 0 0, .slice none 0 0, .bool false, .int .i64 0, .slice none 0 0, .slice none 0 0, .slice none 0 0] 205) from h42) 9
        have z10 := free12 (show w2.heap[w.heap.size]? = some (.cells #[.int .i64 0, .slice none 0 0, .int .i64 0, .int .i64 0, .int .i64 0, .slice none 0 0, .slice none 0 0, .bool false, .int .i64 0, .slice none 0 0, .slice none 0 0, .slice none 0 0] 205) from h42) 10
        have z11 := free12 (show w2.heap[w.heap.size]? = some (.cells #[.int .i64 0, .slice none 0 0, .int .i64 0, .int .i64 0, .int .i64 0, .slice none 0 0, .slice none 0 0, .bool false, .int .i64 0, .slice none 0 0, .slice none 0 0, .slice none 0 0] 205) from h42) 11
        clear hR2 hB2 h42 hT
        go_wp2
        have b1 := setAll_heap [.int .i64 x2.kind, .slice ax x2.texts.length cx, .int .i64 x2.test.kind, .int .i64 x2.test.mat, .int .i64 x2.test.part, .slice an x2.test.names.length cn, .slice ak x2.test.keys.length ck, .bool x2.test.over, .int .i64 x2.test.limit, .slice at' x2.test.tests.length ct, .slice aa x2.thn.length ca, .slice ae x2.els.length ce] 0 (w2) _ H42.out
        rw [put12] at b1
        have b4 := setAll_below (Nat.le_refl w.heap.size) [.int .i64 x2.kind, .slice ax x2.texts.length cx, .int .i64 x2.test.kind, .int .i64 x2.test.mat, .int .i64 x2.test.part, .slice an x2.test.names.length cn, .slice ak x2.test.keys.length ck, .bool x2.test.over, .int .i64 x2.test.limit, .slice at' x2.test.tests.length ct, .slice aa x2.thn.length ca, .slice ae x2.els.length ce] 0 (w2) _ (Below.refl w.heap.size w2)
        have kp := setAll_keeps (b := w.heap.size) (fun k hk => by have : V1.heap.size ≤ k := hk; omega) [.int .i64 x2.kind, .slice ax x2.texts.length cx, .int .i64 x2.test.kind, .int .i64 x2.test.mat, .int .i64 x2.test.part, .slice an x2.test.names.length cn, .slice ak x2.test.keys.length ck, .bool x2.test.over, .int .i64 x2.test.limit, .slice at' x2.test.tests.length ct, .slice aa x2.thn.length ca, .slice ae x2.els.length ce] 0 (w2) _ (Keeps.refl (newB V1.heap.size) w2)
        simp only [setAll] at b1 b4 kp
        have m0 := cell_of b1 0
        have m1 := cell_of b1 1
        have m2 := cell_of b1 2
        have m3 := cell_of b1 3
        have m4 := cell_of b1 4
        have m5 := cell_of b1 5
        have m6 := cell_of b1 6
        have m7 := cell_of b1 7
        have m8 := cell_of b1 8
        have m9 := cell_of b1 9
        have m10 := cell_of b1 10
        have m11 := cell_of b1 11
        simp at m0 m1 m2 m3 m4 m5 m6 m7 m8 m9 m10 m11
        refine bodyPost_ret (v := .agg #[.int .i64 x2.kind, .slice ax x2.texts.length cx, .int .i64 x2.test.kind, .int .i64 x2.test.mat, .int .i64 x2.test.part, .slice an x2.test.names.length cn, .slice ak x2.test.keys.length ck, .bool x2.test.over, .int .i64 x2.test.limit, .slice at' x2.test.tests.length ct, .slice aa x2.thn.length ca, .slice ae x2.els.length ce]) (by simp only [results, Tryz.results123]; simp [go_sem, m0, m1, m2, m3, m4, m5, m6, m7, m8, m9, m10, m11]) rfl ?_
        rw [HE.out]
        exact ⟨_, rfl, ⟨[.int .i64 x2.kind, .slice ax x2.texts.length cx, .int .i64 x2.test.kind, .int .i64 x2.test.mat, .int .i64 x2.test.part, .slice an x2.test.names.length cn, .slice ak x2.test.keys.length ck, .bool x2.test.over, .int .i64 x2.test.limit, .slice at' x2.test.tests.length ct, .slice aa x2.thn.length ca, .slice ae x2.els.length ce], rfl, CmdM.more _ _ _ _ (by omega) (CmdM.imp (fun k hk => by have : V1.heap.size ≤ k := hk; show w.heap.size ≤ k; omega) kp _ _ _ HT.out)⟩, HR2.out.under b4 hbl, HB2.out.low b4⟩
    by_cases k189 : k = 1 ∨ k = 8 ∨ k = 9
    · rcases k189 with e1 | e8 | e9
      · subst e1
        have HQ := hid (show cmdP (n + 1) true d r = thenR (listR q) fun l q => thenR (takeTP 5 [59] q) fun _ q => .ok (⟨(1 : Nat), l, noneT, [], []⟩, q) by rw [cmdP, hk]; rfl)
        clear hk k2
        obtain ⟨V1, hV1⟩ : ∃ V1, V1 = w1.alloc (.cells #[.int .i64 1, .slice none 0 0, .int .i64 0, .int .i64 0, .int .i64 0, .slice none 0 0, .slice none 0 0, .bool false, .int .i64 0, .slice none 0 0, .slice none 0 0, .slice none 0 0] 205) := ⟨_, rfl⟩
        have halv : Below w1.heap.size w1 V1 := by rw [hV1]; exact (Below.refl _ _).alloc (Nat.le_refl _) _
        have H5V := hid (show V1.heap[w1.heap.size]? = some (.cells #[.int .i64 1, .slice none 0 0, .int .i64 0, .int .i64 0, .int .i64 0, .slice none 0 0, .slice none 0 0, .bool false, .int .i64 0, .slice none 0 0, .slice none 0 0, .slice none 0 0] 205) by rw [hV1]; exact heap_alloc_new w1 _)
        have hltv : w1.heap.size < V1.heap.size := by rw [hV1]; simp
        have HVE := hid hV1
        have H4V := hid ((halv.block _ hlt1).trans H41.out)
        have HRV := hid (HR1.out.next halv)
        have HBV := hid (HB1.out.trans (But.of halv))
        have HWV := hid (HW1.out.next halv)
        clear hV1 halv
        go_wp2_with fail
        rw [← HVE.out]
        refine (rlist_any b A C L q V1 HRV.out).mono ?_
        cases hx : listR q with
        | error m =>
          have HE := hid (show cmdP (n + 1) true d r = .error m by rw [HQ.out, hx]; rfl)
          clear hx
          rintro e w2 ⟨rfl, hB2⟩
          have HB2 := hid (HBV.out.trans hB2)
          clear hB2
          go_wp2
          rw [HE.out]
          exact ⟨rfl, rfl, HB2.out⟩
        | ok y =>
          obtain ⟨x, q2⟩ := y
          have HQ2 := hid (show cmdP (n + 1) true d r = thenR (takeTP 5 [59] q2) fun _ q => .ok (⟨(1 : Nat), x, noneT, [], []⟩, q) by rw [HQ.out, hx]; rfl)
          clear hx
          rintro e w2 ⟨v, rfl, hT, hR2, hB2⟩
          obtain ⟨ax, cx, rfl⟩ := hT.slice
          have HT := hid hT
          have h42 := (hB2.block _ (Nat.lt_trans hlt1 hltv) hnb).trans H4V.out
          have h52 := (hB2.block _ hltv hn5b).trans H5V.out
          have hs2 := hB2.size
          have hl52 : w1.heap.size < w2.heap.size := by omega
          have g0 := (cells12 h52).2.1
          have y0 := free12 h52 1
          obtain ⟨X1, hX1⟩ : ∃ X1, X1 = w2.setCell ⟨w1.heap.size, 1, none⟩ (.slice ax x.length cx) := ⟨_, rfl⟩
          have h4X : X1.heap[w.heap.size]? = some (.cells zero12 205) := by rw [hX1]; exact (Below.heap_setCell _ _ _ _ hn5).trans h42
          have h5X : X1.heap[w1.heap.size]? = some (.cells #[.int .i64 1, .slice ax x.length cx, .int .i64 0, .int .i64 0, .int .i64 0, .slice none 0 0, .slice none 0 0, .bool false, .int .i64 0, .slice none 0 0, .slice none 0 0, .slice none 0 0] 205) := by rw [hX1]; have := setCell_mark (i := 1) (.slice ax x.length cx) h52; simpa using this
          have hBX : Below w1.heap.size w2 X1 := by rw [hX1]; exact (Below.refl _ _).setCell (p := ⟨w1.heap.size, 1, none⟩) (Nat.le_refl _) _
          have hKX : Keeps (newB V1.heap.size) w2 X1 := by rw [hX1]; exact Keeps.set w2 (p := ⟨w1.heap.size, 1, none⟩) _ (fun k hk => by have : V1.heap.size ≤ k := hk; show k ≠ w1.heap.size; omega)
          have hsX := hBX.size
          have HRX := hid (hR2.under hBX (by omega))
          have HB2 := hid ((HBV.out.trans hB2).low (hBX.mono (by omega)))
          have HXE := hid hX1
          have H4X := hid h4X
          have H5X := hid h5X
          have HKX := hid hKX
          clear hR2 hB2 h42 h52 hT hX1 h4X h5X hBX hKX
          go_wp2_with fail
          rw [← HXE.out]
          refine (rtake_any b A C L q2 5 [59] X1 HRX.out (by omega)).mono ?_
          cases hy : takeTP 5 [59] q2 with
          | error m =>
            have HE := hid (show cmdP (n + 1) true d r = .error m by rw [HQ2.out, hy]; rfl)
            clear hy
            rintro e w3 ⟨rfl, hB3⟩
            have HB3 := hid (HB2.out.trans hB3)
            clear hB3
            go_wp2
            rw [HE.out]
            exact ⟨rfl, rfl, HB3.out⟩
          | ok y =>
            obtain ⟨u, q3⟩ := y
            have HE := hid (show cmdP (n + 1) true d r = .ok (⟨(1 : Nat), x, noneT, [], []⟩, q3) by rw [HQ2.out, hy]; rfl)
            clear hy
            rintro e w3 ⟨v, rfl, rfl, hR3, hB3⟩
            have h43 := (hB3.block _ (by omega) hnb).trans H4X.out
            have h53 := (hB3.block _ (by omega) hn5b).trans H5X.out
            have hs3 := hB3.size
            have H43 := hid h43
            have HR3 := hid hR3
            have HB3 := hid (HB2.out.trans hB3)
            have HK3 := hid (HKX.out.trans (Keeps.of_but hB3 (fun k hk => by have : V1.heap.size ≤ k := hk; omega)))
            obtain ⟨a0, a1, a2, a3, a4, a5, a6, a7, a8, a9, a10, a11⟩ := cells12 (show w3.heap[w.heap.size]? = some (.cells #[.int .i64 0, .slice none 0 0, .int .i64 0, .int .i64 0, .int .i64 0, .slice none 0 0, .slice none 0 0, .bool false, .int .i64 0, .slice none 0 0, .slice none 0 0, .slice none 0 0] 205) from h43)
            have z0 := free12 (show w3.heap[w.heap.size]? = some (.cells #[.int .i64 0, .slice none 0 0, .int .i64 0, .int .i64 0, .int .i64 0, .slice none 0 0, .slice none 0 0, .bool false, .int .i64 0, .slice none 0 0, .slice none 0 0, .slice none 0 0] 205) from h43) 0
            have z1 := free12 (show w3.heap[w.heap.size]? = some (.cells #[.int .i64 0, .slice none 0 0, .int .i64 0, .int .i64 0, .int .i64 0, .slice none 0 0, .slice none 0 0, .bool false, .int .i64 0, .slice none 0 0, .slice none 0 0, .slice none 0 0] 205) from h43) 1
            have z2 := free12 (show w3.heap[w.heap.size]? = some (.cells #[.int .i64 0, .slice none 0 0, .int .i64 0, .int .i64 0, .int .i64 0, .slice none 0 0, .slice none 0 0, .bool false, .int .i64 0, .slice none 0 0, .slice none 0 0, .slice none 0 0] 205) from h43) 2
            have z3 := free12 (show w3.heap[w.heap.size]? = some (.cells #[.int .i64 0, .slice none 0 0, .int .i64 0, .int .i64 0, .int .i64 0, .slice none 0 0, .slice none 0 0, .bool false, .int .i64 0, .slice none 0 0, .slice none 0 0, .slice none 0 0] 205) from h43) 3
            have z4 := free12 (show w3.heap[w.heap.size]? = some (.cells #[.int .i64 0, .slice none 0 0, .int .i64 0, .int .i64 0, .int .i64 0, .slice none 0 0, .slice none 0 0, .bool false, .int .i64 0, .slice none 0 0, .slice none 0 0, .slice none 0 0] 205) from h43) 4
            have z5 := free12 (show w3.heap[w.heap.size]? = some (.cells #[.int .i64 0, .slice none 0 0, .int .i64 0, .int .i64 0, .int .i64 0, .slice none 0 0, .slice none 0 0, .bool false, .int .i64 0, .slice none 0 0, .slice none 0 0, .slice none 0 0] 205) from h43) 5
            have z6 := free12 (show w3.heap[w.heap.size]? = some (.cells #[.int .i64 0, .slice none 0 0, .int .i64 0, .int .i64 0, .int .i64 0, .slice none 0 0, .slice none 0 0, .bool false, .int .i64 0, .slice none 0 0, .slice none 0 0, .slice none 0 0] 205) from h43) 6
            have z7 := free12 (show w3.heap[w.heap.size]? = some (.cells #[.int .i64 0, .slice none 0 0, .int .i64 0, .int .i64 0, .int .i64 0, .slice none 0 0, .slice none 0 0, .bool false, .int .i64 0, .slice none 0 0, .slice none 0 0, .slice none 0 0] 205) from h43) 7
            have z8 := free12 (show w3.heap[w.heap.size]? = some (.cells #[.int .i64 0, .slice none 0 0, .int .i64 0, .int .i64 0, .int .i64 0, .slice none 0 0, .slice none 0 0, .bool false, .int .i64 0, .slice none 0 0, .slice none 0 0, .slice none 0 0] 205) from h43) 8
            have z9 := free12 (show w3.heap[w.heap.size]? = some (.cells #[.int .i64 0, .slice none 0 0, .int .i64 0, .int .i64 0, .int .i64 0, .slice none 0 0, .slice none 0 0, .bool false, .int .i64 0, .slice none 0 0, .slice none 0 0, .slice none 0 0] 205) from h43) 9
            have z10 := free12 (show w3.heap[w.heap.size]? = some (.cells #[.int .i64 0, .slice none 0 0, .int .i64 0, .int .i64 0, .int .i64 0, .slice none 0 0, .slice none 0 0, .bool false, .int .i64 0, .slice none 0 0, .slice none 0 0, .slice none 0 0] 205) from h43) 10
            have z11 := free12 (show w3.heap[w.heap.size]? = some (.cells #[.int .i64 0, .slice none 0 0, .int .i64 0, .int .i64 0, .int .i64 0, .slice none 0 0, .slice none 0 0, .bool false, .int .i64 0, .slice none 0 0, .slice none 0 0, .slice none 0 0] 205) from h43) 11
            obtain ⟨g0, g1, g2, g3, g4, g5, g6, g7, g8, g9, g10, g11⟩ := cells12 h53
            have y0 := free12 h53 0
            have y1 := free12 h53 1
            have y2 := free12 h53 2
            have y3 := free12 h53 3
            have y4 := free12 h53 4
            have y5 := free12 h53 5
            have y6 := free12 h53 6
            have y7 := free12 h53 7
            have y8 := free12 h53 8
            have y9 := free12 h53 9
            have y10 := free12 h53 10
            have y11 := free12 h53 11
            clear hR3 hB3 h43 h53
            go_wp2
            have b1 := setAll_heap [.int .i64 1, .slice ax x.length cx, .int .i64 0, .int .i64 0, .int .i64 0, .slice none 0 0, .slice none 0 0, .bool false, .int .i64 0, .slice none 0 0, .slice none 0 0, .slice none 0 0] 0 (w3) _ H43.out
            rw [put12] at b1
            have b4 := setAll_below (Nat.le_refl w.heap.size) [.int .i64 1, .slice ax x.length cx, .int .i64 0, .int .i64 0, .int .i64 0, .slice none 0 0, .slice none 0 0, .bool false, .int .i64 0, .slice none 0 0, .slice none 0 0, .slice none 0 0] 0 (w3) _ (Below.refl w.heap.size w3)
            have kp := setAll_keeps (b := w.heap.size) (fun k hk => by have : V1.heap.size ≤ k := hk; omega) [.int .i64 1, .slice ax x.length cx, .int .i64 0, .int .i64 0, .int .i64 0, .slice none 0 0, .slice none 0 0, .bool false, .int .i64 0, .slice none 0 0, .slice none 0 0, .slice none 0 0] 0 (w3) _ HK3.out
            simp only [setAll] at b1 b4 kp
            have m0 := cell_of b1 0
            have m1 := cell_of b1 1
            have m2 := cell_of b1 2
            have m3 := cell_of b1 3
            have m4 := cell_of b1 4
            have m5 := cell_of b1 5
            have m6 := cell_of b1 6
            have m7 := cell_of b1 7
            have m8 := cell_of b1 8
            have m9 := cell_of b1 9
            have m10 := cell_of b1 10
            have m11 := cell_of b1 11
            simp at m0 m1 m2 m3 m4 m5 m6 m7 m8 m9 m10 m11
            refine bodyPost_ret (v := .agg #[.int .i64 1, .slice ax x.length cx, .int .i64 0, .int .i64 0, .int .i64 0, .slice none 0 0, .slice none 0 0, .bool false, .int .i64 0, .slice none 0 0, .slice none 0 0, .slice none 0 0]) (by simp only [results, Tryz.results123]; simp [go_sem, m0, m1, m2, m3, m4, m5, m6, m7, m8, m9, m10, m11]) rfl ?_
            rw [HE.out]
            exact ⟨_, rfl, ⟨[.int .i64 1, .slice ax x.length cx, .int .i64 0, .int .i64 0, .int .i64 0, .slice none 0 0, .slice none 0 0, .bool false, .int .i64 0, .slice none 0 0, .slice none 0 0, .slice none 0 0], rfl, ⟨_, _, _, _, _, _, rfl, TxtsM.imp HT.out (fun k hk => by have : V1.heap.size ≤ k := hk; show w.heap.size ≤ k; omega) kp, none_tst _ _ _, rowM_nil _ _ _ _ _ _, rowM_nil _ _ _ _ _ _⟩⟩, HR3.out.under b4 hbl, HB3.out.low b4⟩
      · subst e8
        have HQ := hid (show cmdP (n + 1) true d r = thenR (listR q) fun l q => thenR (takeTP 5 [59] q) fun _ q => .ok (⟨(8 : Nat), l, noneT, [], []⟩, q) by rw [cmdP, hk]; rfl)
        clear hk k2
        obtain ⟨V1, hV1⟩ : ∃ V1, V1 = w1.alloc (.cells #[.int .i64 8, .slice none 0 0, .int .i64 0, .int .i64 0, .int .i64 0, .slice none 0 0, .slice none 0 0, .bool false, .int .i64 0, .slice none 0 0, .slice none 0 0, .slice none 0 0] 205) := ⟨_, rfl⟩
        have halv : Below w1.heap.size w1 V1 := by rw [hV1]; exact (Below.refl _ _).alloc (Nat.le_refl _) _
        have H5V := hid (show V1.heap[w1.heap.size]? = some (.cells #[.int .i64 8, .slice none 0 0, .int .i64 0, .int .i64 0, .int .i64 0, .slice none 0 0, .slice none 0 0, .bool false, .int .i64 0, .slice none 0 0, .slice none 0 0, .slice none 0 0] 205) by rw [hV1]; exact heap_alloc_new w1 _)
        have hltv : w1.heap.size < V1.heap.size := by rw [hV1]; simp
        have HVE := hid hV1
        have H4V := hid ((halv.block _ hlt1).trans H41.out)
        have HRV := hid (HR1.out.next halv)
        have HBV := hid (HB1.out.trans (But.of halv))
        have HWV := hid (HW1.out.next halv)
        clear hV1 halv
        go_wp2_with fail
        rw [← HVE.out]
        refine (rlist_any b A C L q V1 HRV.out).mono ?_
        cases hx : listR q with
        | error m =>
          have HE := hid (show cmdP (n + 1) true d r = .error m by rw [HQ.out, hx]; rfl)
          clear hx
          rintro e w2 ⟨rfl, hB2⟩
          have HB2 := hid (HBV.out.trans hB2)
          clear hB2
          go_wp2
          rw [HE.out]
          exact ⟨rfl, rfl, HB2.out⟩
        | ok y =>
          obtain ⟨x, q2⟩ := y
          have HQ2 := hid (show cmdP (n + 1) true d r = thenR (takeTP 5 [59] q2) fun _ q => .ok (⟨(8 : Nat), x, noneT, [], []⟩, q) by rw [HQ.out, hx]; rfl)
          clear hx
          rintro e w2 ⟨v, rfl, hT, hR2, hB2⟩
          obtain ⟨ax, cx, rfl⟩ := hT.slice
          have HT := hid hT
          have h42 := (hB2.block _ (Nat.lt_trans hlt1 hltv) hnb).trans H4V.out
          have h52 := (hB2.block _ hltv hn5b).trans H5V.out
          have hs2 := hB2.size
          have hl52 : w1.heap.size < w2.heap.size := by omega
          have g0 := (cells12 h52).2.1
          have y0 := free12 h52 1
          obtain ⟨X1, hX1⟩ : ∃ X1, X1 = w2.setCell ⟨w1.heap.size, 1, none⟩ (.slice ax x.length cx) := ⟨_, rfl⟩
          have h4X : X1.heap[w.heap.size]? = some (.cells zero12 205) := by rw [hX1]; exact (Below.heap_setCell _ _ _ _ hn5).trans h42
          have h5X : X1.heap[w1.heap.size]? = some (.cells #[.int .i64 8, .slice ax x.length cx, .int .i64 0, .int .i64 0, .int .i64 0, .slice none 0 0, .slice none 0 0, .bool false, .int .i64 0, .slice none 0 0, .slice none 0 0, .slice none 0 0] 205) := by rw [hX1]; have := setCell_mark (i := 1) (.slice ax x.length cx) h52; simpa using this
          have hBX : Below w1.heap.size w2 X1 := by rw [hX1]; exact (Below.refl _ _).setCell (p := ⟨w1.heap.size, 1, none⟩) (Nat.le_refl _) _
          have hKX : Keeps (newB V1.heap.size) w2 X1 := by rw [hX1]; exact Keeps.set w2 (p := ⟨w1.heap.size, 1, none⟩) _ (fun k hk => by have : V1.heap.size ≤ k := hk; show k ≠ w1.heap.size; omega)
          have hsX := hBX.size
          have HRX := hid (hR2.under hBX (by omega))
          have HB2 := hid ((HBV.out.trans hB2).low (hBX.mono (by omega)))
          have HXE := hid hX1
          have H4X := hid h4X
          have H5X := hid h5X
          have HKX := hid hKX
          clear hR2 hB2 h42 h52 hT hX1 h4X h5X hBX hKX
          go_wp2_with fail
          rw [← HXE.out]
          refine (rtake_any b A C L q2 5 [59] X1 HRX.out (by omega)).mono ?_
          cases hy : takeTP 5 [59] q2 with
          | error m =>
            have HE := hid (show cmdP (n + 1) true d r = .error m by rw [HQ2.out, hy]; rfl)
            clear hy
            rintro e w3 ⟨rfl, hB3⟩
            have HB3 := hid (HB2.out.trans hB3)
            clear hB3
            go_wp2
            rw [HE.out]
            exact ⟨rfl, rfl, HB3.out⟩
          | ok y =>
            obtain ⟨u, q3⟩ := y
            have HE := hid (show cmdP (n + 1) true d r = .ok (⟨(8 : Nat), x, noneT, [], []⟩, q3) by rw [HQ2.out, hy]; rfl)
            clear hy
            rintro e w3 ⟨v, rfl, rfl, hR3, hB3⟩
            have h43 := (hB3.block _ (by omega) hnb).trans H4X.out
            have h53 := (hB3.block _ (by omega) hn5b).trans H5X.out
            have hs3 := hB3.size
            have H43 := hid h43
            have HR3 := hid hR3
            have HB3 := hid (HB2.out.trans hB3)
            have HK3 := hid (HKX.out.trans (Keeps.of_but hB3 (fun k hk => by have : V1.heap.size ≤ k := hk; omega)))
            obtain ⟨a0, a1, a2, a3, a4, a5, a6, a7, a8, a9, a10, a11⟩ := cells12 (show w3.heap[w.heap.size]? = some (.cells #[.int .i64 0, .slice none 0 0, .int .i64 0, .int .i64 0, .int .i64 0, .slice none 0 0, .slice none 0 0, .bool false, .int .i64 0, .slice none 0 0, .slice none 0 0, .slice none 0 0] 205) from h43)
            have z0 := free12 (show w3.heap[w.heap.size]? = some (.cells #[.int .i64 0, .slice none 0 0, .int .i64 0, .int .i64 0, .int .i64 0, .slice none 0 0, .slice none 0 0, .bool false, .int .i64 0, .slice none 0 0, .slice none 0 0, .slice none 0 0] 205) from h43) 0
            have z1 := free12 (show w3.heap[w.heap.size]? = some (.cells #[.int .i64 0, .slice none 0 0, .int .i64 0, .int .i64 0, .int .i64 0, .slice none 0 0, .slice none 0 0, .bool false, .int .i64 0, .slice none 0 0, .slice none 0 0, .slice none 0 0] 205) from h43) 1
            have z2 := free12 (show w3.heap[w.heap.size]? = some (.cells #[.int .i64 0, .slice none 0 0, .int .i64 0, .int .i64 0, .int .i64 0, .slice none 0 0, .slice none 0 0, .bool false, .int .i64 0, .slice none 0 0, .slice none 0 0, .slice none 0 0] 205) from h43) 2
            have z3 := free12 (show w3.heap[w.heap.size]? = some (.cells #[.int .i64 0, .slice none 0 0, .int .i64 0, .int .i64 0, .int .i64 0, .slice none 0 0, .slice none 0 0, .bool false, .int .i64 0, .slice none 0 0, .slice none 0 0, .slice none 0 0] 205) from h43) 3
            have z4 := free12 (show w3.heap[w.heap.size]? = some (.cells #[.int .i64 0, .slice none 0 0, .int .i64 0, .int .i64 0, .int .i64 0, .slice none 0 0, .slice none 0 0, .bool false, .int .i64 0, .slice none 0 0, .slice none 0 0, .slice none 0 0] 205) from h43) 4
            have z5 := free12 (show w3.heap[w.heap.size]? = some (.cells #[.int .i64 0, .slice none 0 0, .int .i64 0, .int .i64 0, .int .i64 0, .slice none 0 0, .slice none 0 0, .bool false, .int .i64 0, .slice none 0 0, .slice none 0 0, .slice none 0 0] 205) from h43) 5
            have z6 := free12 (show w3.heap[w.heap.size]? = some (.cells #[.int .i64 0, .slice none 0 0, .int .i64 0, .int .i64 0, .int .i64 0, .slice none 0 0, .slice none 0 0, .bool false, .int .i64 0, .slice none 0 0, .slice none 0 0, .slice none 0 0] 205) from h43) 6
            have z7 := free12 (show w3.heap[w.heap.size]? = some (.cells #[.int .i64 0, .slice none 0 0, .int .i64 0, .int .i64 0, .int .i64 0, .slice none 0 0, .slice none 0 0, .bool false, .int .i64 0, .slice none 0 0, .slice none 0 0, .slice none 0 0] 205) from h43) 7
            have z8 := free12 (show w3.heap[w.heap.size]? = some (.cells #[.int .i64 0, .slice none 0 0, .int .i64 0, .int .i64 0, .int .i64 0, .slice none 0 0, .slice none 0 0, .bool false, .int .i64 0, .slice none 0 0, .slice none 0 0, .slice none 0 0] 205) from h43) 8
            have z9 := free12 (show w3.heap[w.heap.size]? = some (.cells #[.int .i64 0, .slice none 0 0, .int .i64 0, .int .i64 0, .int .i64 0, .slice none 0 0, .slice none 0 0, .bool false, .int .i64 0, .slice none 0 0, .slice none 0 0, .slice none 0 0] 205) from h43) 9
            have z10 := free12 (show w3.heap[w.heap.size]? = some (.cells #[.int .i64 0, .slice none 0 0, .int .i64 0, .int .i64 0, .int .i64 0, .slice none 0 0, .slice none 0 0, .bool false, .int .i64 0, .slice none 0 0, .slice none 0 0, .slice none 0 0] 205) from h43) 10
            have z11 := free12 (show w3.heap[w.heap.size]? = some (.cells #[.int .i64 0, .slice none 0 0, .int .i64 0, .int .i64 0, .int .i64 0, .slice none 0 0, .slice none 0 0, .bool false, .int .i64 0, .slice none 0 0, .slice none 0 0, .slice none 0 0] 205) from h43) 11
            obtain ⟨g0, g1, g2, g3, g4, g5, g6, g7, g8, g9, g10, g11⟩ := cells12 h53
            have y0 := free12 h53 0
            have y1 := free12 h53 1
            have y2 := free12 h53 2
            have y3 := free12 h53 3
            have y4 := free12 h53 4
            have y5 := free12 h53 5
            have y6 := free12 h53 6
            have y7 := free12 h53 7
            have y8 := free12 h53 8
            have y9 := free12 h53 9
            have y10 := free12 h53 10
            have y11 := free12 h53 11
            clear hR3 hB3 h43 h53
            go_wp2
            have b1 := setAll_heap [.int .i64 8, .slice ax x.length cx, .int .i64 0, .int .i64 0, .int .i64 0, .slice none 0 0, .slice none 0 0, .bool false, .int .i64 0, .slice none 0 0, .slice none 0 0, .slice none 0 0] 0 (w3) _ H43.out
            rw [put12] at b1
            have b4 := setAll_below (Nat.le_refl w.heap.size) [.int .i64 8, .slice ax x.length cx, .int .i64 0, .int .i64 0, .int .i64 0, .slice none 0 0, .slice none 0 0, .bool false, .int .i64 0, .slice none 0 0, .slice none 0 0, .slice none 0 0] 0 (w3) _ (Below.refl w.heap.size w3)
            have kp := setAll_keeps (b := w.heap.size) (fun k hk => by have : V1.heap.size ≤ k := hk; omega) [.int .i64 8, .slice ax x.length cx, .int .i64 0, .int .i64 0, .int .i64 0, .slice none 0 0, .slice none 0 0, .bool false, .int .i64 0, .slice none 0 0, .slice none 0 0, .slice none 0 0] 0 (w3) _ HK3.out
            simp only [setAll] at b1 b4 kp
            have m0 := cell_of b1 0
            have m1 := cell_of b1 1
            have m2 := cell_of b1 2
            have m3 := cell_of b1 3
            have m4 := cell_of b1 4
            have m5 := cell_of b1 5
            have m6 := cell_of b1 6
            have m7 := cell_of b1 7
            have m8 := cell_of b1 8
            have m9 := cell_of b1 9
            have m10 := cell_of b1 10
            have m11 := cell_of b1 11
            simp at m0 m1 m2 m3 m4 m5 m6 m7 m8 m9 m10 m11
            refine bodyPost_ret (v := .agg #[.int .i64 8, .slice ax x.length cx, .int .i64 0, .int .i64 0, .int .i64 0, .slice none 0 0, .slice none 0 0, .bool false, .int .i64 0, .slice none 0 0, .slice none 0 0, .slice none 0 0]) (by simp only [results, Tryz.results123]; simp [go_sem, m0, m1, m2, m3, m4, m5, m6, m7, m8, m9, m10, m11]) rfl ?_
            rw [HE.out]
            exact ⟨_, rfl, ⟨[.int .i64 8, .slice ax x.length cx, .int .i64 0, .int .i64 0, .int .i64 0, .slice none 0 0, .slice none 0 0, .bool false, .int .i64 0, .slice none 0 0, .slice none 0 0, .slice none 0 0], rfl, ⟨_, _, _, _, _, _, rfl, TxtsM.imp HT.out (fun k hk => by have : V1.heap.size ≤ k := hk; show w.heap.size ≤ k; omega) kp, none_tst _ _ _, rowM_nil _ _ _ _ _ _, rowM_nil _ _ _ _ _ _⟩⟩, HR3.out.under b4 hbl, HB3.out.low b4⟩
      · subst e9
        have HQ := hid (show cmdP (n + 1) true d r = thenR (listR q) fun l q => thenR (takeTP 5 [59] q) fun _ q => .ok (⟨(9 : Nat), l, noneT, [], []⟩, q) by rw [cmdP, hk]; rfl)
        clear hk k2
        obtain ⟨V1, hV1⟩ : ∃ V1, V1 = w1.alloc (.cells #[.int .i64 9, .slice none 0 0, .int .i64 0, .int .i64 0, .int .i64 0, .slice none 0 0, .slice none 0 0, .bool false, .int .i64 0, .slice none 0 0, .slice none 0 0, .slice none 0 0] 205) := ⟨_, rfl⟩
        have halv : Below w1.heap.size w1 V1 := by rw [hV1]; exact (Below.refl _ _).alloc (Nat.le_refl _) _
        have H5V := hid (show V1.heap[w1.heap.size]? = some (.cells #[.int .i64 9, .slice none 0 0, .int .i64 0, .int .i64 0, .int .i64 0, .slice none 0 0, .slice none 0 0, .bool false, .int .i64 0, .slice none 0 0, .slice none 0 0, .slice none 0 0] 205) by rw [hV1]; exact heap_alloc_new w1 _)
        have hltv : w1.heap.size < V1.heap.size := by rw [hV1]; simp
        have HVE := hid hV1
        have H4V := hid ((halv.block _ hlt1).trans H41.out)
        have HRV := hid (HR1.out.next halv)
        have HBV := hid (HB1.out.trans (But.of halv))
        have HWV := hid (HW1.out.next halv)
        clear hV1 halv
        go_wp2_with fail
        rw [← HVE.out]
        refine (rlist_any b A C L q V1 HRV.out).mono ?_
        cases hx : listR q with
        | error m =>
          have HE := hid (show cmdP (n + 1) true d r = .error m by rw [HQ.out, hx]; rfl)
          clear hx
          rintro e w2 ⟨rfl, hB2⟩
          have HB2 := hid (HBV.out.trans hB2)
          clear hB2
          go_wp2
          rw [HE.out]
          exact ⟨rfl, rfl, HB2.out⟩
        | ok y =>
          obtain ⟨x, q2⟩ := y
          have HQ2 := hid (show cmdP (n + 1) true d r = thenR (takeTP 5 [59] q2) fun _ q => .ok (⟨(9 : Nat), x, noneT, [], []⟩, q) by rw [HQ.out, hx]; rfl)
          clear hx
          rintro e w2 ⟨v, rfl, hT, hR2, hB2⟩
          obtain ⟨ax, cx, rfl⟩ := hT.slice
          have HT := hid hT
          have h42 := (hB2.block _ (Nat.lt_trans hlt1 hltv) hnb).trans H4V.out
          have h52 := (hB2.block _ hltv hn5b).trans H5V.out
          have hs2 := hB2.size
          have hl52 : w1.heap.size < w2.heap.size := by omega
          have g0 := (cells12 h52).2.1
          have y0 := free12 h52 1
          obtain ⟨X1, hX1⟩ : ∃ X1, X1 = w2.setCell ⟨w1.heap.size, 1, none⟩ (.slice ax x.length cx) := ⟨_, rfl⟩
          have h4X : X1.heap[w.heap.size]? = some (.cells zero12 205) := by rw [hX1]; exact (Below.heap_setCell _ _ _ _ hn5).trans h42
          have h5X : X1.heap[w1.heap.size]? = some (.cells #[.int .i64 9, .slice ax x.length cx, .int .i64 0, .int .i64 0, .int .i64 0, .slice none 0 0, .slice none 0 0, .bool false, .int .i64 0, .slice none 0 0, .slice none 0 0, .slice none 0 0] 205) := by rw [hX1]; have := setCell_mark (i := 1) (.slice ax x.length cx) h52; simpa using this
          have hBX : Below w1.heap.size w2 X1 := by rw [hX1]; exact (Below.refl _ _).setCell (p := ⟨w1.heap.size, 1, none⟩) (Nat.le_refl _) _
          have hKX : Keeps (newB V1.heap.size) w2 X1 := by rw [hX1]; exact Keeps.set w2 (p := ⟨w1.heap.size, 1, none⟩) _ (fun k hk => by have : V1.heap.size ≤ k := hk; show k ≠ w1.heap.size; omega)
          have hsX := hBX.size
          have HRX := hid (hR2.under hBX (by omega))
          have HB2 := hid ((HBV.out.trans hB2).low (hBX.mono (by omega)))
          have HXE := hid hX1
          have H4X := hid h4X
          have H5X := hid h5X
          have HKX := hid hKX
          clear hR2 hB2 h42 h52 hT hX1 h4X h5X hBX hKX
          go_wp2_with fail
          rw [← HXE.out]
          refine (rtake_any b A C L q2 5 [59] X1 HRX.out (by omega)).mono ?_
          cases hy : takeTP 5 [59] q2 with
          | error m =>
            have HE := hid (show cmdP (n + 1) true d r = .error m by rw [HQ2.out, hy]; rfl)
            clear hy
            rintro e w3 ⟨rfl, hB3⟩
            have HB3 := hid (HB2.out.trans hB3)
            clear hB3
            go_wp2
            rw [HE.out]
            exact ⟨rfl, rfl, HB3.out⟩
          | ok y =>
            obtain ⟨u, q3⟩ := y
            have HE := hid (show cmdP (n + 1) true d r = .ok (⟨(9 : Nat), x, noneT, [], []⟩, q3) by rw [HQ2.out, hy]; rfl)
            clear hy
            rintro e w3 ⟨v, rfl, rfl, hR3, hB3⟩
            have h43 := (hB3.block _ (by omega) hnb).trans H4X.out
            have h53 := (hB3.block _ (by omega) hn5b).trans H5X.out
            have hs3 := hB3.size
            have H43 := hid h43
            have HR3 := hid hR3
            have HB3 := hid (HB2.out.trans hB3)
            have HK3 := hid (HKX.out.trans (Keeps.of_but hB3 (fun k hk => by have : V1.heap.size ≤ k := hk; omega)))
            obtain ⟨a0, a1, a2, a3, a4, a5, a6, a7, a8, a9, a10, a11⟩ := cells12 (show w3.heap[w.heap.size]? = some (.cells #[.int .i64 0, .slice none 0 0, .int .i64 0, .int .i64 0, .int .i64 0, .slice none 0 0, .slice none 0 0, .bool false, .int .i64 0, .slice none 0 0, .slice none 0 0, .slice none 0 0] 205) from h43)
            have z0 := free12 (show w3.heap[w.heap.size]? = some (.cells #[.int .i64 0, .slice none 0 0, .int .i64 0, .int .i64 0, .int .i64 0, .slice none 0 0, .slice none 0 0, .bool false, .int .i64 0, .slice none 0 0, .slice none 0 0, .slice none 0 0] 205) from h43) 0
            have z1 := free12 (show w3.heap[w.heap.size]? = some (.cells #[.int .i64 0, .slice none 0 0, .int .i64 0, .int .i64 0, .int .i64 0, .slice none 0 0, .slice none 0 0, .bool false, .int .i64 0, .slice none 0 0, .slice none 0 0, .slice none 0 0] 205) from h43) 1
            have z2 := free12 (show w3.heap[w.heap.size]? = some (.cells #[.int .i64 0, .slice none 0 0, .int .i64 0, .int .i64 0, .int .i64 0, .slice none 0 0, .slice none 0 0, .bool false, .int .i64 0, .slice none 0 0, .slice none 0 0, .slice none 0 0] 205) from h43) 2
            have z3 := free12 (show w3.heap[w.heap.size]? = some (.cells #[.int .i64 0, .slice none 0 0, .int .i64 0, .int .i64 0, .int .i64 0, .slice none 0 0, .slice none 0 0, .bool false, .int .i64 0, .slice none 0 0, .slice none 0 0, .slice none 0 0] 205) from h43) 3
            have z4 := free12 (show w3.heap[w.heap.size]? = some (.cells #[.int .i64 0, .slice none 0 0, .int .i64 0, .int .i64 0, .int .i64 0, .slice none 0 0, .slice none 0 0, .bool false, .int .i64 0, .slice none 0 0, .slice none 0 0, .slice none 0 0] 205) from h43) 4
            have z5 := free12 (show w3.heap[w.heap.size]? = some (.cells #[.int .i64 0, .slice none 0 0, .int .i64 0, .int .i64 0, .int .i64 0, .slice none 0 0, .slice none 0 0, .bool false, .int .i64 0, .slice none 0 0, .slice none 0 0, .slice none 0 0] 205) from h43) 5
            have z6 := free12 (show w3.heap[w.heap.size]? = some (.cells #[.int .i64 0, .slice none 0 0, .int .i64 0, .int .i64 0, .int .i64 0, .slice none 0 0, .slice none 0 0, .bool false, .int .i64 0, .slice none 0 0, .slice none 0 0, .slice none 0 0] 205) from h43) 6
            have z7 := free12 (show w3.heap[w.heap.size]? = some (.cells #[.int .i64 0, .slice none 0 0, .int .i64 0, .int .i64 0, .int .i64 0, .slice none 0 0, .slice none 0 0, .bool false, .int .i64 0, .slice none 0 0, .slice none 0 0, .slice none 0 0] 205) from h43) 7
            have z8 := free12 (show w3.heap[w.heap.size]? = some (.cells #[.int .i64 0, .slice none 0 0, .int .i64 0, .int .i64 0, .int .i64 0, .slice none 0 0, .slice none 0 0, .bool false, .int .i64 0, .slice none 0 0, .slice none 0 0, .slice none 0 0] 205) from h43) 8
            have z9 := free12 (show w3.heap[w.heap.size]? = some (.cells #[.int .i64 0, .slice none 0 0, .int .i64 0, .int .i64 0, .int .i64 0, .slice none 0 0, .slice none 0 0, .bool false, .int .i64 0, .slice none 0 0, .slice none 0 0, .slice none 0 0] 205) from h43) 9
            have z10 := free12 (show w3.heap[w.heap.size]? = some (.cells #[.int .i64 0, .slice none 0 0, .int .i64 0, .int .i64 0, .int .i64 0, .slice none 0 0, .slice none 0 0, .bool false, .int .i64 0, .slice none 0 0, .slice none 0 0, .slice none 0 0] 205) from h43) 10
            have z11 := free12 (show w3.heap[w.heap.size]? = some (.cells #[.int .i64 0, .slice none 0 0, .int .i64 0, .int .i64 0, .int .i64 0, .slice none 0 0, .slice none 0 0, .bool false, .int .i64 0, .slice none 0 0, .slice none 0 0, .slice none 0 0] 205) from h43) 11
            obtain ⟨g0, g1, g2, g3, g4, g5, g6, g7, g8, g9, g10, g11⟩ := cells12 h53
            have y0 := free12 h53 0
            have y1 := free12 h53 1
            have y2 := free12 h53 2
            have y3 := free12 h53 3
            have y4 := free12 h53 4
            have y5 := free12 h53 5
            have y6 := free12 h53 6
            have y7 := free12 h53 7
            have y8 := free12 h53 8
            have y9 := free12 h53 9
            have y10 := free12 h53 10
            have y11 := free12 h53 11
            clear hR3 hB3 h43 h53
            go_wp2
            have b1 := setAll_heap [.int .i64 9, .slice ax x.length cx, .int .i64 0, .int .i64 0, .int .i64 0, .slice none 0 0, .slice none 0 0, .bool false, .int .i64 0, .slice none 0 0, .slice none 0 0, .slice none 0 0] 0 (w3) _ H43.out
            rw [put12] at b1
            have b4 := setAll_below (Nat.le_refl w.heap.size) [.int .i64 9, .slice ax x.length cx, .int .i64 0, .int .i64 0, .int .i64 0, .slice none 0 0, .slice none 0 0, .bool false, .int .i64 0, .slice none 0 0, .slice none 0 0, .slice none 0 0] 0 (w3) _ (Below.refl w.heap.size w3)
            have kp := setAll_keeps (b := w.heap.size) (fun k hk => by have : V1.heap.size ≤ k := hk; omega) [.int .i64 9, .slice ax x.length cx, .int .i64 0, .int .i64 0, .int .i64 0, .slice none 0 0, .slice none 0 0, .bool false, .int .i64 0, .slice none 0 0, .slice none 0 0, .slice none 0 0] 0 (w3) _ HK3.out
            simp only [setAll] at b1 b4 kp
            have m0 := cell_of b1 0
            have m1 := cell_of b1 1
            have m2 := cell_of b1 2
            have m3 := cell_of b1 3
            have m4 := cell_of b1 4
            have m5 := cell_of b1 5
            have m6 := cell_of b1 6
            have m7 := cell_of b1 7
            have m8 := cell_of b1 8
            have m9 := cell_of b1 9
            have m10 := cell_of b1 10
            have m11 := cell_of b1 11
            simp at m0 m1 m2 m3 m4 m5 m6 m7 m8 m9 m10 m11
            refine bodyPost_ret (v := .agg #[.int .i64 9, .slice ax x.length cx, .int .i64 0, .int .i64 0, .int .i64 0, .slice none 0 0, .slice none 0 0, .bool false, .int .i64 0, .slice none 0 0, .slice none 0 0, .slice none 0 0]) (by simp only [results, Tryz.results123]; simp [go_sem, m0, m1, m2, m3, m4, m5, m6, m7, m8, m9, m10, m11]) rfl ?_
            rw [HE.out]
            exact ⟨_, rfl, ⟨[.int .i64 9, .slice ax x.length cx, .int .i64 0, .int .i64 0, .int .i64 0, .slice none 0 0, .slice none 0 0, .bool false, .int .i64 0, .slice none 0 0, .slice none 0 0, .slice none 0 0], rfl, ⟨_, _, _, _, _, _, rfl, TxtsM.imp HT.out (fun k hk => by have : V1.heap.size ≤ k := hk; show w.heap.size ≤ k; omega) kp, none_tst _ _ _, rowM_nil _ _ _ _ _ _, rowM_nil _ _ _ _ _ _⟩⟩, HR3.out.under b4 hbl, HB3.out.low b4⟩
    by_cases k567 : k = 5 ∨ k = 6 ∨ k = 7
    · rcases k567 with e5 | e6 | e7
      · subst e5
        have HQ := hid (show cmdP (n + 1) true d r = thenR (textR q) fun x q => thenR (takeTP 5 [59] q) fun _ q => .ok (⟨(5 : Nat), [x], noneT, [], []⟩, q) by rw [cmdP, hk]; rfl)
        clear hk k2 k189
        obtain ⟨V1, hV1⟩ : ∃ V1, V1 = w1.alloc (.cells #[.int .i64 5, .slice none 0 0, .int .i64 0, .int .i64 0, .int .i64 0, .slice none 0 0, .slice none 0 0, .bool false, .int .i64 0, .slice none 0 0, .slice none 0 0, .slice none 0 0] 205) := ⟨_, rfl⟩
        have halv : Below w1.heap.size w1 V1 := by rw [hV1]; exact (Below.refl _ _).alloc (Nat.le_refl _) _
        have H5V := hid (show V1.heap[w1.heap.size]? = some (.cells #[.int .i64 5, .slice none 0 0, .int .i64 0, .int .i64 0, .int .i64 0, .slice none 0 0, .slice none 0 0, .bool false, .int .i64 0, .slice none 0 0, .slice none 0 0, .slice none 0 0] 205) by rw [hV1]; exact heap_alloc_new w1 _)
        have hltv : w1.heap.size < V1.heap.size := by rw [hV1]; simp
        have HVE := hid hV1
        have H4V := hid ((halv.block _ hlt1).trans H41.out)
        have HRV := hid (HR1.out.next halv)
        have HBV := hid (HB1.out.trans (But.of halv))
        have HWV := hid (HW1.out.next halv)
        clear hV1 halv
        go_wp2_with fail
        rw [← HVE.out]
        refine (rtext_any b A C L q V1 HRV.out).mono ?_
        cases hx : textR q with
        | error m =>
          have HE := hid (show cmdP (n + 1) true d r = .error m by rw [HQ.out, hx]; rfl)
          clear hx
          rintro e w2 ⟨rfl, hB2⟩
          have HB2 := hid (HBV.out.trans hB2)
          clear hB2
          go_wp2
          rw [HE.out]
          exact ⟨rfl, rfl, HB2.out⟩
        | ok y =>
          obtain ⟨x, q2⟩ := y
          have HQ2 := hid (show cmdP (n + 1) true d r = thenR (takeTP 5 [59] q2) fun _ q => .ok (⟨(5 : Nat), [x], noneT, [], []⟩, q) by rw [HQ.out, hx]; rfl)
          clear hx
          rintro e w2 ⟨v, rfl, rfl, hR2, hB2⟩
          have h42 := (hB2.block _ (Nat.lt_trans hlt1 hltv) hnb).trans H4V.out
          have h52 := (hB2.block _ hltv hn5b).trans H5V.out
          have hs2 := hB2.size
          have hl52 : w1.heap.size < w2.heap.size := by omega
          have hl42 : w.heap.size < w2.heap.size := by omega
          have g0 := (cells12 h52).2.1
          have y0 := free12 h52 1
          obtain ⟨X1, hX1⟩ : ∃ X1, X1 = (w2.setCell ⟨w1.heap.size, 1, none⟩ (.slice (some ⟨w2.heap.size, 0, none⟩) 1 1)).alloc (.cells #[.string (S x)] 9) := ⟨_, rfl⟩
          have hBX : Below w1.heap.size w2 X1 := by rw [hX1]; exact ((Below.refl _ _).setCell (p := ⟨w1.heap.size, 1, none⟩) (Nat.le_refl _) _).alloc (by simp [World.setCell]; omega) _
          have hat : ∀ (k : Nat) (W : World) (o : Obj), k < W.heap.size → (W.alloc o).heap[k]? = W.heap[k]? := fun k W o hk => by
            show (W.heap.push o)[k]? = _
            rw [Array.getElem?_push_lt hk, Array.getElem?_eq_getElem hk]
          have h4X : X1.heap[w.heap.size]? = some (.cells zero12 205) := by rw [hX1, hat _ _ _ (by simp [World.setCell]; omega)]; exact (Below.heap_setCell _ _ _ _ hn5).trans h42
          have h5X : X1.heap[w1.heap.size]? = some (.cells #[.int .i64 5, .slice (some ⟨w2.heap.size, 0, none⟩) 1 1, .int .i64 0, .int .i64 0, .int .i64 0, .slice none 0 0, .slice none 0 0, .bool false, .int .i64 0, .slice none 0 0, .slice none 0 0, .slice none 0 0] 205) := by rw [hX1, hat _ _ _ (by simp [World.setCell]; omega)]; have := setCell_mark (i := 1) (.slice (some ⟨w2.heap.size, 0, none⟩) 1 1) h52; simpa using this
          have hT : TxtsM (newB V1.heap.size) X1 (.slice (some ⟨w2.heap.size, 0, none⟩) 1 1) [x] := by
            rw [hX1]
            have e : (w2.setCell ⟨w1.heap.size, 1, none⟩ (.slice (some ⟨w2.heap.size, 0, none⟩) 1 1)).heap.size = w2.heap.size := by simp [World.setCell]
            have := heap_alloc_new (w2.setCell ⟨w1.heap.size, 1, none⟩ (.slice (some ⟨w2.heap.size, 0, none⟩) 1 1)) (.cells #[.string (S x)] 9)
            rw [e] at this
            exact rowM_one (cs := [.string (S x)]) this rfl hs2 rfl
          have hsX := hBX.size
          have HRX := hid (hR2.under hBX (by omega))
          have HB2 := hid ((HBV.out.trans hB2).low (hBX.mono (by omega)))
          have HXE := hid hX1
          have H4X := hid h4X
          have H5X := hid h5X
          have HT := hid hT
          clear hR2 hB2 h42 h52 hT hX1 h4X h5X hBX hat
          go_wp2_with fail
          rw [← HXE.out]
          refine (rtake_any b A C L q2 5 [59] X1 HRX.out (by omega)).mono ?_
          cases hy : takeTP 5 [59] q2 with
          | error m =>
            have HE := hid (show cmdP (n + 1) true d r = .error m by rw [HQ2.out, hy]; rfl)
            clear hy
            rintro e w3 ⟨rfl, hB3⟩
            have HB3 := hid (HB2.out.trans hB3)
            clear hB3
            go_wp2
            rw [HE.out]
            exact ⟨rfl, rfl, HB3.out⟩
          | ok y =>
            obtain ⟨u, q3⟩ := y
            have HE := hid (show cmdP (n + 1) true d r = .ok (⟨(5 : Nat), [x], noneT, [], []⟩, q3) by rw [HQ2.out, hy]; rfl)
            clear hy
            rintro e w3 ⟨v, rfl, rfl, hR3, hB3⟩
            have h43 := (hB3.block _ (by omega) hnb).trans H4X.out
            have h53 := (hB3.block _ (by omega) hn5b).trans H5X.out
            have hs3 := hB3.size
            have H43 := hid h43
            have HR3 := hid hR3
            have HB3 := hid (HB2.out.trans hB3)
            have HK3 := hid (show Keeps (newB V1.heap.size) X1 w3 from Keeps.of_but hB3 (fun k hk => by have : V1.heap.size ≤ k := hk; omega))
            obtain ⟨a0, a1, a2, a3, a4, a5, a6, a7, a8, a9, a10, a11⟩ := cells12 (show w3.heap[w.heap.size]? = some (.cells #[.int .i64 0, .slice none 0 0, .int .i64 0, .int .i64 0, .int .i64 0, .slice none 0 0, .slice none 0 0, .bool false, .int .i64 0, .slice none 0 0, .slice none 0 0, .slice none 0 0] 205) from h43)
            have z0 := free12 (show w3.heap[w.heap.size]? = some (.cells #[.int .i64 0, .slice none 0 0, .int .i64 0, .int .i64 0, .int .i64 0, .slice none 0 0, .slice none 0 0, .bool false, .int .i64 0, .slice none 0 0, .slice none 0 0, .slice none 0 0] 205) from h43) 0
            have z1 := free12 (show w3.heap[w.heap.size]? = some (.cells #[.int .i64 0, .slice none 0 0, .int .i64 0, .int .i64 0, .int .i64 0, .slice none 0 0, .slice none 0 0, .bool false, .int .i64 0, .slice none 0 0, .slice none 0 0, .slice none 0 0] 205) from h43) 1
            have z2 := free12 (show w3.heap[w.heap.size]? = some (.cells #[.int .i64 0, .slice none 0 0, .int .i64 0, .int .i64 0, .int .i64 0, .slice none 0 0, .slice none 0 0, .bool false, .int .i64 0, .slice none 0 0, .slice none 0 0, .slice none 0 0] 205) from h43) 2
            have z3 := free12 (show w3.heap[w.heap.size]? = some (.cells #[.int .i64 0, .slice none 0 0, .int .i64 0, .int .i64 0, .int .i64 0, .slice none 0 0, .slice none 0 0, .bool false, .int .i64 0, .slice none 0 0, .slice none 0 0, .slice none 0 0] 205) from h43) 3
            have z4 := free12 (show w3.heap[w.heap.size]? = some (.cells #[.int .i64 0, .slice none 0 0, .int .i64 0, .int .i64 0, .int .i64 0, .slice none 0 0, .slice none 0 0, .bool false, .int .i64 0, .slice none 0 0, .slice none 0 0, .slice none 0 0] 205) from h43) 4
            have z5 := free12 (show w3.heap[w.heap.size]? = some (.cells #[.int .i64 0, .slice none 0 0, .int .i64 0, .int .i64 0, .int .i64 0, .slice none 0 0, .slice none 0 0, .bool false, .int .i64 0, .slice none 0 0, .slice none 0 0, .slice none 0 0] 205) from h43) 5
            have z6 := free12 (show w3.heap[w.heap.size]? = some (.cells #[.int .i64 0, .slice none 0 0, .int .i64 0, .int .i64 0, .int .i64 0, .slice none 0 0, .slice none 0 0, .bool false, .int .i64 0, .slice none 0 0, .slice none 0 0, .slice none 0 0] 205) from h43) 6
            have z7 := free12 (show w3.heap[w.heap.size]? = some (.cells #[.int .i64 0, .slice none 0 0, .int .i64 0, .int .i64 0, .int .i64 0, .slice none 0 0, .slice none 0 0, .bool false, .int .i64 0, .slice none 0 0, .slice none 0 0, .slice none 0 0] 205) from h43) 7
            have z8 := free12 (show w3.heap[w.heap.size]? = some (.cells #[.int .i64 0, .slice none 0 0, .int .i64 0, .int .i64 0, .int .i64 0, .slice none 0 0, .slice none 0 0, .bool false, .int .i64 0, .slice none 0 0, .slice none 0 0, .slice none 0 0] 205) from h43) 8
            have z9 := free12 (show w3.heap[w.heap.size]? = some (.cells #[.int .i64 0, .slice none 0 0, .int .i64 0, .int .i64 0, .int .i64 0, .slice none 0 0, .slice none 0 0, .bool false, .int .i64 0, .slice none 0 0, .slice none 0 0, .slice none 0 0] 205) from h43) 9
            have z10 := free12 (show w3.heap[w.heap.size]? = some (.cells #[.int .i64 0, .slice none 0 0, .int .i64 0, .int .i64 0, .int .i64 0, .slice none 0 0, .slice none 0 0, .bool false, .int .i64 0, .slice none 0 0, .slice none 0 0, .slice none 0 0] 205) from h43) 10
            have z11 := free12 (show w3.heap[w.heap.size]? = some (.cells #[.int .i64 0, .slice none 0 0, .int .i64 0, .int .i64 0, .int .i64 0, .slice none 0 0, .slice none 0 0, .bool false, .int .i64 0, .slice none 0 0, .slice none 0 0, .slice none 0 0] 205) from h43) 11
            obtain ⟨g0, g1, g2, g3, g4, g5, g6, g7, g8, g9, g10, g11⟩ := cells12 h53
            have y0 := free12 h53 0
            have y1 := free12 h53 1
            have y2 := free12 h53 2
            have y3 := free12 h53 3
            have y4 := free12 h53 4
            have y5 := free12 h53 5
            have y6 := free12 h53 6
            have y7 := free12 h53 7
            have y8 := free12 h53 8
            have y9 := free12 h53 9
            have y10 := free12 h53 10
            have y11 := free12 h53 11
            clear hR3 hB3 h43 h53
            go_wp2
            have b1 := setAll_heap [.int .i64 5, .slice (some ⟨w2.heap.size, 0, none⟩) 1 1, .int .i64 0, .int .i64 0, .int .i64 0, .slice none 0 0, .slice none 0 0, .bool false, .int .i64 0, .slice none 0 0, .slice none 0 0, .slice none 0 0] 0 (w3) _ H43.out
            rw [put12] at b1
            have b4 := setAll_below (Nat.le_refl w.heap.size) [.int .i64 5, .slice (some ⟨w2.heap.size, 0, none⟩) 1 1, .int .i64 0, .int .i64 0, .int .i64 0, .slice none 0 0, .slice none 0 0, .bool false, .int .i64 0, .slice none 0 0, .slice none 0 0, .slice none 0 0] 0 (w3) _ (Below.refl w.heap.size w3)
            have kp := setAll_keeps (b := w.heap.size) (fun k hk => by have : V1.heap.size ≤ k := hk; omega) [.int .i64 5, .slice (some ⟨w2.heap.size, 0, none⟩) 1 1, .int .i64 0, .int .i64 0, .int .i64 0, .slice none 0 0, .slice none 0 0, .bool false, .int .i64 0, .slice none 0 0, .slice none 0 0, .slice none 0 0] 0 (w3) _ HK3.out
            simp only [setAll] at b1 b4 kp
            have m0 := cell_of b1 0
            have m1 := cell_of b1 1
            have m2 := cell_of b1 2
            have m3 := cell_of b1 3
            have m4 := cell_of b1 4
            have m5 := cell_of b1 5
            have m6 := cell_of b1 6
            have m7 := cell_of b1 7
            have m8 := cell_of b1 8
            have m9 := cell_of b1 9
            have m10 := cell_of b1 10
            have m11 := cell_of b1 11
            simp at m0 m1 m2 m3 m4 m5 m6 m7 m8 m9 m10 m11
            refine bodyPost_ret (v := .agg #[.int .i64 5, .slice (some ⟨w2.heap.size, 0, none⟩) 1 1, .int .i64 0, .int .i64 0, .int .i64 0, .slice none 0 0, .slice none 0 0, .bool false, .int .i64 0, .slice none 0 0, .slice none 0 0, .slice none 0 0]) (by simp only [results, Tryz.results123]; simp [go_sem, m0, m1, m2, m3, m4, m5, m6, m7, m8, m9, m10, m11]) rfl ?_
            rw [HE.out]
            exact ⟨_, rfl, ⟨[.int .i64 5, .slice (some ⟨w2.heap.size, 0, none⟩) 1 1, .int .i64 0, .int .i64 0, .int .i64 0, .slice none 0 0, .slice none 0 0, .bool false, .int .i64 0, .slice none 0 0, .slice none 0 0, .slice none 0 0], rfl, ⟨_, _, _, _, _, _, rfl, TxtsM.imp HT.out (fun k hk => by have : V1.heap.size ≤ k := hk; show w.heap.size ≤ k; omega) kp, none_tst _ _ _, rowM_nil _ _ _ _ _ _, rowM_nil _ _ _ _ _ _⟩⟩, HR3.out.under b4 hbl, HB3.out.low b4⟩
      · subst e6
        have HQ := hid (show cmdP (n + 1) true d r = thenR (textR q) fun x q => thenR (takeTP 5 [59] q) fun _ q => .ok (⟨(6 : Nat), [x], noneT, [], []⟩, q) by rw [cmdP, hk]; rfl)
        clear hk k2 k189
        obtain ⟨V1, hV1⟩ : ∃ V1, V1 = w1.alloc (.cells #[.int .i64 6, .slice none 0 0, .int .i64 0, .int .i64 0, .int .i64 0, .slice none 0 0, .slice none 0 0, .bool false, .int .i64 0, .slice none 0 0, .slice none 0 0, .slice none 0 0] 205) := ⟨_, rfl⟩
        have halv : Below w1.heap.size w1 V1 := by rw [hV1]; exact (Below.refl _ _).alloc (Nat.le_refl _) _
        have H5V := hid (show V1.heap[w1.heap.size]? = some (.cells #[.int .i64 6, .slice none 0 0, .int .i64 0, .int .i64 0, .int .i64 0, .slice none 0 0, .slice none 0 0, .bool false, .int .i64 0, .slice none 0 0, .slice none 0 0, .slice none 0 0] 205) by rw [hV1]; exact heap_alloc_new w1 _)
        have hltv : w1.heap.size < V1.heap.size := by rw [hV1]; simp
        have HVE := hid hV1
        have H4V := hid ((halv.block _ hlt1).trans H41.out)
        have HRV := hid (HR1.out.next halv)
        have HBV := hid (HB1.out.trans (But.of halv))
        have HWV := hid (HW1.out.next halv)
        clear hV1 halv
        go_wp2_with fail
        rw [← HVE.out]
        refine (rtext_any b A C L q V1 HRV.out).mono ?_
        cases hx : textR q with
        | error m =>
          have HE := hid (show cmdP (n + 1) true d r = .error m by rw [HQ.out, hx]; rfl)
          clear hx
          rintro e w2 ⟨rfl, hB2⟩
          have HB2 := hid (HBV.out.trans hB2)
          clear hB2
          go_wp2
          rw [HE.out]
          exact ⟨rfl, rfl, HB2.out⟩
        | ok y =>
          obtain ⟨x, q2⟩ := y
          have HQ2 := hid (show cmdP (n + 1) true d r = thenR (takeTP 5 [59] q2) fun _ q => .ok (⟨(6 : Nat), [x], noneT, [], []⟩, q) by rw [HQ.out, hx]; rfl)
          clear hx
          rintro e w2 ⟨v, rfl, rfl, hR2, hB2⟩
          have h42 := (hB2.block _ (Nat.lt_trans hlt1 hltv) hnb).trans H4V.out
          have h52 := (hB2.block _ hltv hn5b).trans H5V.out
          have hs2 := hB2.size
          have hl52 : w1.heap.size < w2.heap.size := by omega
          have hl42 : w.heap.size < w2.heap.size := by omega
          have g0 := (cells12 h52).2.1
          have y0 := free12 h52 1
          obtain ⟨X1, hX1⟩ : ∃ X1, X1 = (w2.setCell ⟨w1.heap.size, 1, none⟩ (.slice (some ⟨w2.heap.size, 0, none⟩) 1 1)).alloc (.cells #[.string (S x)] 9) := ⟨_, rfl⟩
          have hBX : Below w1.heap.size w2 X1 := by rw [hX1]; exact ((Below.refl _ _).setCell (p := ⟨w1.heap.size, 1, none⟩) (Nat.le_refl _) _).alloc (by simp [World.setCell]; omega) _
          have hat : ∀ (k : Nat) (W : World) (o : Obj), k < W.heap.size → (W.alloc o).heap[k]? = W.heap[k]? := fun k W o hk => by
            show (W.heap.push o)[k]? = _
            rw [Array.getElem?_push_lt hk, Array.getElem?_eq_getElem hk]
          have h4X : X1.heap[w.heap.size]? = some (.cells zero12 205) := by rw [hX1, hat _ _ _ (by simp [World.setCell]; omega)]; exact (Below.heap_setCell _ _ _ _ hn5).trans h42
          have h5X : X1.heap[w1.heap.size]? = some (.cells #[.int .i64 6, .slice (some ⟨w2.heap.size, 0, none⟩) 1 1, .int .i64 0, .int .i64 0, .int .i64 0, .slice none 0 0, .slice none 0 0, .bool false, .int .i64 0, .slice none 0 0, .slice none 0 0, .slice none 0 0] 205) := by rw [hX1, hat _ _ _ (by simp [World.setCell]; omega)]; have := setCell_mark (i := 1) (.slice (some ⟨w2.heap.size, 0, none⟩) 1 1) h52; simpa using this
          have hT : TxtsM (newB V1.heap.size) X1 (.slice (some ⟨w2.heap.size, 0, none⟩) 1 1) [x] := by
            rw [hX1]
            have e : (w2.setCell ⟨w1.heap.size, 1, none⟩ (.slice (some ⟨w2.heap.size, 0, none⟩) 1 1)).heap.size = w2.heap.size := by simp [World.setCell]
            have := heap_alloc_new (w2.setCell ⟨w1.heap.size, 1, none⟩ (.slice (some ⟨w2.heap.size, 0, none⟩) 1 1)) (.cells #[.string (S x)] 9)
            rw [e] at this
            exact rowM_one (cs := [.string (S x)]) this rfl hs2 rfl
          have hsX := hBX.size
          have HRX := hid (hR2.under hBX (by omega))
          have HB2 := hid ((HBV.out.trans hB2).low (hBX.mono (by omega)))
          have HXE := hid hX1
          have H4X := hid h4X
          have H5X := hid h5X
          have HT := hid hT
          clear hR2 hB2 h42 h52 hT hX1 h4X h5X hBX hat
          go_wp2_with fail
          rw [← HXE.out]
          refine (rtake_any b A C L q2 5 [59] X1 HRX.out (by omega)).mono ?_
          cases hy : takeTP 5 [59] q2 with
          | error m =>
            have HE := hid (show cmdP (n + 1) true d r = .error m by rw [HQ2.out, hy]; rfl)
            clear hy
            rintro e w3 ⟨rfl, hB3⟩
            have HB3 := hid (HB2.out.trans hB3)
            clear hB3
            go_wp2
            rw [HE.out]
            exact ⟨rfl, rfl, HB3.out⟩
          | ok y =>
            obtain ⟨u, q3⟩ := y
            have HE := hid (show cmdP (n + 1) true d r = .ok (⟨(6 : Nat), [x], noneT, [], []⟩, q3) by rw [HQ2.out, hy]; rfl)
            clear hy
            rintro e w3 ⟨v, rfl, rfl, hR3, hB3⟩
            have h43 := (hB3.block _ (by omega) hnb).trans H4X.out
            have h53 := (hB3.block _ (by omega) hn5b).trans H5X.out
            have hs3 := hB3.size
            have H43 := hid h43
            have HR3 := hid hR3
            have HB3 := hid (HB2.out.trans hB3)
            have HK3 := hid (show Keeps (newB V1.heap.size) X1 w3 from Keeps.of_but hB3 (fun k hk => by have : V1.heap.size ≤ k := hk; omega))
            obtain ⟨a0, a1, a2, a3, a4, a5, a6, a7, a8, a9, a10, a11⟩ := cells12 (show w3.heap[w.heap.size]? = some (.cells #[.int .i64 0, .slice none 0 0, .int .i64 0, .int .i64 0, .int .i64 0, .slice none 0 0, .slice none 0 0, .bool false, .int .i64 0, .slice none 0 0, .slice none 0 0, .slice none 0 0] 205) from h43)
            have z0 := free12 (show w3.heap[w.heap.size]? = some (.cells #[.int .i64 0, .slice none 0 0, .int .i64 0, .int .i64 0, .int .i64 0, .slice none 0 0, .slice none 0 0, .bool false, .int .i64 0, .slice none 0 0, .slice none 0 0, .slice none 0 0] 205) from h43) 0
            have z1 := free12 (show w3.heap[w.heap.size]? = some (.cells #[.int .i64 0, .slice none 0 0, .int .i64 0, .int .i64 0, .int .i64 0, .slice none 0 0, .slice none 0 0, .bool false, .int .i64 0, .slice none 0 0, .slice none 0 0, .slice none 0 0] 205) from h43) 1
            have z2 := free12 (show w3.heap[w.heap.size]? = some (.cells #[.int .i64 0, .slice none 0 0, .int .i64 0, .int .i64 0, .int .i64 0, .slice none 0 0, .slice none 0 0, .bool false, .int .i64 0, .slice none 0 0, .slice none 0 0, .slice none 0 0] 205) from h43) 2
            have z3 := free12 (show w3.heap[w.heap.size]? = some (.cells #[.int .i64 0, .slice none 0 0, .int .i64 0, .int .i64 0, .int .i64 0, .slice none 0 0, .slice none 0 0, .bool false, .int .i64 0, .slice none 0 0, .slice none 0 0, .slice none 0 0] 205) from h43) 3
            have z4 := free12 (show w3.heap[w.heap.size]? = some (.cells #[.int .i64 0, .slice none 0 0, .int .i64 0, .int .i64 0, .int .i64 0, .slice none 0 0, .slice none 0 0, .bool false, .int .i64 0, .slice none 0 0, .slice none 0 0, .slice none 0 0] 205) from h43) 4
            have z5 := free12 (show w3.heap[w.heap.size]? = some (.cells #[.int .i64 0, .slice none 0 0, .int .i64 0, .int .i64 0, .int .i64 0, .slice none 0 0, .slice none 0 0, .bool false, .int .i64 0, .slice none 0 0, .slice none 0 0, .slice none 0 0] 205) from h43) 5
            have z6 := free12 (show w3.heap[w.heap.size]? = some (.cells #[.int .i64 0, .slice none 0 0, .int .i64 0, .int .i64 0, .int .i64 0, .slice none 0 0, .slice none 0 0, .bool false, .int .i64 0, .slice none 0 0, .slice none 0 0, .slice none 0 0] 205) from h43) 6
            have z7 := free12 (show w3.heap[w.heap.size]? = some (.cells #[.int .i64 0, .slice none 0 0, .int .i64 0, .int .i64 0, .int .i64 0, .slice none 0 0, .slice none 0 0, .bool false, .int .i64 0, .slice none 0 0, .slice none 0 0, .slice none 0 0] 205) from h43) 7
            have z8 := free12 (show w3.heap[w.heap.size]? = some (.cells #[.int .i64 0, .slice none 0 0, .int .i64 0, .int .i64 0, .int .i64 0, .slice none 0 0, .slice none 0 0, .bool false, .int .i64 0, .slice none 0 0, .slice none 0 0, .slice none 0 0] 205) from h43) 8
            have z9 := free12 (show w3.heap[w.heap.size]? = some (.cells #[.int .i64 0, .slice none 0 0, .int .i64 0, .int .i64 0, .int .i64 0, .slice none 0 0, .slice none 0 0, .bool false, .int .i64 0, .slice none 0 0, .slice none 0 0, .slice none 0 0] 205) from h43) 9
            have z10 := free12 (show w3.heap[w.heap.size]? = some (.cells #[.int .i64 0, .slice none 0 0, .int .i64 0, .int .i64 0, .int .i64 0, .slice none 0 0, .slice none 0 0, .bool false, .int .i64 0, .slice none 0 0, .slice none 0 0, .slice none 0 0] 205) from h43) 10
            have z11 := free12 (show w3.heap[w.heap.size]? = some (.cells #[.int .i64 0, .slice none 0 0, .int .i64 0, .int .i64 0, .int .i64 0, .slice none 0 0, .slice none 0 0, .bool false, .int .i64 0, .slice none 0 0, .slice none 0 0, .slice none 0 0] 205) from h43) 11
            obtain ⟨g0, g1, g2, g3, g4, g5, g6, g7, g8, g9, g10, g11⟩ := cells12 h53
            have y0 := free12 h53 0
            have y1 := free12 h53 1
            have y2 := free12 h53 2
            have y3 := free12 h53 3
            have y4 := free12 h53 4
            have y5 := free12 h53 5
            have y6 := free12 h53 6
            have y7 := free12 h53 7
            have y8 := free12 h53 8
            have y9 := free12 h53 9
            have y10 := free12 h53 10
            have y11 := free12 h53 11
            clear hR3 hB3 h43 h53
            go_wp2
            have b1 := setAll_heap [.int .i64 6, .slice (some ⟨w2.heap.size, 0, none⟩) 1 1, .int .i64 0, .int .i64 0, .int .i64 0, .slice none 0 0, .slice none 0 0, .bool false, .int .i64 0, .slice none 0 0, .slice none 0 0, .slice none 0 0] 0 (w3) _ H43.out
            rw [put12] at b1
            have b4 := setAll_below (Nat.le_refl w.heap.size) [.int .i64 6, .slice (some ⟨w2.heap.size, 0, none⟩) 1 1, .int .i64 0, .int .i64 0, .int .i64 0, .slice none 0 0, .slice none 0 0, .bool false, .int .i64 0, .slice none 0 0, .slice none 0 0, .slice none 0 0] 0 (w3) _ (Below.refl w.heap.size w3)
            have kp := setAll_keeps (b := w.heap.size) (fun k hk => by have : V1.heap.size ≤ k := hk; omega) [.int .i64 6, .slice (some ⟨w2.heap.size, 0, none⟩) 1 1, .int .i64 0, .int .i64 0, .int .i64 0, .slice none 0 0, .slice none 0 0, .bool false, .int .i64 0, .slice none 0 0, .slice none 0 0, .slice none 0 0] 0 (w3) _ HK3.out
            simp only [setAll] at b1 b4 kp
            have m0 := cell_of b1 0
            have m1 := cell_of b1 1
            have m2 := cell_of b1 2
            have m3 := cell_of b1 3
            have m4 := cell_of b1 4
            have m5 := cell_of b1 5
            have m6 := cell_of b1 6
            have m7 := cell_of b1 7
            have m8 := cell_of b1 8
            have m9 := cell_of b1 9
            have m10 := cell_of b1 10
            have m11 := cell_of b1 11
            simp at m0 m1 m2 m3 m4 m5 m6 m7 m8 m9 m10 m11
            refine bodyPost_ret (v := .agg #[.int .i64 6, .slice (some ⟨w2.heap.size, 0, none⟩) 1 1, .int .i64 0, .int .i64 0, .int .i64 0, .slice none 0 0, .slice none 0 0, .bool false, .int .i64 0, .slice none 0 0, .slice none 0 0, .slice none 0 0]) (by simp only [results, Tryz.results123]; simp [go_sem, m0, m1, m2, m3, m4, m5, m6, m7, m8, m9, m10, m11]) rfl ?_
            rw [HE.out]
            exact ⟨_, rfl, ⟨[.int .i64 6, .slice (some ⟨w2.heap.size, 0, none⟩) 1 1, .int .i64 0, .int .i64 0, .int .i64 0, .slice none 0 0, .slice none 0 0, .bool false, .int .i64 0, .slice none 0 0, .slice none 0 0, .slice none 0 0], rfl, ⟨_, _, _, _, _, _, rfl, TxtsM.imp HT.out (fun k hk => by have : V1.heap.size ≤ k := hk; show w.heap.size ≤ k; omega) kp, none_tst _ _ _, rowM_nil _ _ _ _ _ _, rowM_nil _ _ _ _ _ _⟩⟩, HR3.out.under b4 hbl, HB3.out.low b4⟩
      · subst e7
        have HQ := hid (show cmdP (n + 1) true d r = thenR (textR q) fun x q => thenR (takeTP 5 [59] q) fun _ q => .ok (⟨(7 : Nat), [x], noneT, [], []⟩, q) by rw [cmdP, hk]; rfl)
        clear hk k2 k189
        obtain ⟨V1, hV1⟩ : ∃ V1, V1 = w1.alloc (.cells #[.int .i64 7, .slice none 0 0, .int .i64 0, .int .i64 0, .int .i64 0, .slice none 0 0, .slice none 0 0, .bool false, .int .i64 0, .slice none 0 0, .slice none 0 0, .slice none 0 0] 205) := ⟨_, rfl⟩
        have halv : Below w1.heap.size w1 V1 := by rw [hV1]; exact (Below.refl _ _).alloc (Nat.le_refl _) _
        have H5V := hid (show V1.heap[w1.heap.size]? = some (.cells #[.int .i64 7, .slice none 0 0, .int .i64 0, .int .i64 0, .int .i64 0, .slice none 0 0, .slice none 0 0, .bool false, .int .i64 0, .slice none 0 0, .slice none 0 0, .slice none 0 0] 205) by rw [hV1]; exact heap_alloc_new w1 _)
        have hltv : w1.heap.size < V1.heap.size := by rw [hV1]; simp
        have HVE := hid hV1
        have H4V := hid ((halv.block _ hlt1).trans H41.out)
        have HRV := hid (HR1.out.next halv)
        have HBV := hid (HB1.out.trans (But.of halv))
        have HWV := hid (HW1.out.next halv)
        clear hV1 halv
        go_wp2_with fail
        rw [← HVE.out]
        refine (rtext_any b A C L q V1 HRV.out).mono ?_
        cases hx : textR q with
        | error m =>
          have HE := hid (show cmdP (n + 1) true d r = .error m by rw [HQ.out, hx]; rfl)
          clear hx
          rintro e w2 ⟨rfl, hB2⟩
          have HB2 := hid (HBV.out.trans hB2)
          clear hB2
          go_wp2
          rw [HE.out]
          exact ⟨rfl, rfl, HB2.out⟩
        | ok y =>
          obtain ⟨x, q2⟩ := y
          have HQ2 := hid (show cmdP (n + 1) true d r = thenR (takeTP 5 [59] q2) fun _ q => .ok (⟨(7 : Nat), [x], noneT, [], []⟩, q) by rw [HQ.out, hx]; rfl)
          clear hx
          rintro e w2 ⟨v, rfl, rfl, hR2, hB2⟩
          have h42 := (hB2.block _ (Nat.lt_trans hlt1 hltv) hnb).trans H4V.out
          have h52 := (hB2.block _ hltv hn5b).trans H5V.out
          have hs2 := hB2.size
          have hl52 : w1.heap.size < w2.heap.size := by omega
          have hl42 : w.heap.size < w2.heap.size := by omega
          have g0 := (cells12 h52).2.1
          have y0 := free12 h52 1
          obtain ⟨X1, hX1⟩ : ∃ X1, X1 = (w2.setCell ⟨w1.heap.size, 1, none⟩ (.slice (some ⟨w2.heap.size, 0, none⟩) 1 1)).alloc (.cells #[.string (S x)] 9) := ⟨_, rfl⟩
          have hBX : Below w1.heap.size w2 X1 := by rw [hX1]; exact ((Below.refl _ _).setCell (p := ⟨w1.heap.size, 1, none⟩) (Nat.le_refl _) _).alloc (by simp [World.setCell]; omega) _
          have hat : ∀ (k : Nat) (W : World) (o : Obj), k < W.heap.size → (W.alloc o).heap[k]? = W.heap[k]? := fun k W o hk => by
            show (W.heap.push o)[k]? = _
            rw [Array.getElem?_push_lt hk, Array.getElem?_eq_getElem hk]
          have h4X : X1.heap[w.heap.size]? = some (.cells zero12 205) := by rw [hX1, hat _ _ _ (by simp [World.setCell]; omega)]; exact (Below.heap_setCell _ _ _ _ hn5).trans h42
          have h5X : X1.heap[w1.heap.size]? = some (.cells #[.int .i64 7, .slice (some ⟨w2.heap.size, 0, none⟩) 1 1, .int .i64 0, .int .i64 0, .int .i64 0, .slice none 0 0, .slice none 0 0, .bool false, .int .i64 0, .slice none 0 0, .slice none 0 0, .slice none 0 0] 205) := by rw [hX1, hat _ _ _ (by simp [World.setCell]; omega)]; have := setCell_mark (i := 1) (.slice (some ⟨w2.heap.size, 0, none⟩) 1 1) h52; simpa using this
          have hT : TxtsM (newB V1.heap.size) X1 (.slice (some ⟨w2.heap.size, 0, none⟩) 1 1) [x] := by
            rw [hX1]
            have e : (w2.setCell ⟨w1.heap.size, 1, none⟩ (.slice (some ⟨w2.heap.size, 0, none⟩) 1 1)).heap.size = w2.heap.size := by simp [World.setCell]
            have := heap_alloc_new (w2.setCell ⟨w1.heap.size, 1, none⟩ (.slice (some ⟨w2.heap.size, 0, none⟩) 1 1)) (.cells #[.string (S x)] 9)
            rw [e] at this
            exact rowM_one (cs := [.string (S x)]) this rfl hs2 rfl
          have hsX := hBX.size
          have HRX := hid (hR2.under hBX (by omega))
          have HB2 := hid ((HBV.out.trans hB2).low (hBX.mono (by omega)))
          have HXE := hid hX1
          have H4X := hid h4X
          have H5X := hid h5X
          have HT := hid hT
          clear hR2 hB2 h42 h52 hT hX1 h4X h5X hBX hat
          go_wp2_with fail
          rw [← HXE.out]
          refine (rtake_any b A C L q2 5 [59] X1 HRX.out (by omega)).mono ?_
          cases hy : takeTP 5 [59] q2 with
          | error m =>
            have HE := hid (show cmdP (n + 1) true d r = .error m by rw [HQ2.out, hy]; rfl)
            clear hy
            rintro e w3 ⟨rfl, hB3⟩
            have HB3 := hid (HB2.out.trans hB3)
            clear hB3
            go_wp2
            rw [HE.out]
            exact ⟨rfl, rfl, HB3.out⟩
          | ok y =>
            obtain ⟨u, q3⟩ := y
            have HE := hid (show cmdP (n + 1) true d r = .ok (⟨(7 : Nat), [x], noneT, [], []⟩, q3) by rw [HQ2.out, hy]; rfl)
            clear hy
            rintro e w3 ⟨v, rfl, rfl, hR3, hB3⟩
            have h43 := (hB3.block _ (by omega) hnb).trans H4X.out
            have h53 := (hB3.block _ (by omega) hn5b).trans H5X.out
            have hs3 := hB3.size
            have H43 := hid h43
            have HR3 := hid hR3
            have HB3 := hid (HB2.out.trans hB3)
            have HK3 := hid (show Keeps (newB V1.heap.size) X1 w3 from Keeps.of_but hB3 (fun k hk => by have : V1.heap.size ≤ k := hk; omega))
            obtain ⟨a0, a1, a2, a3, a4, a5, a6, a7, a8, a9, a10, a11⟩ := cells12 (show w3.heap[w.heap.size]? = some (.cells #[.int .i64 0, .slice none 0 0, .int .i64 0, .int .i64 0, .int .i64 0, .slice none 0 0, .slice none 0 0, .bool false, .int .i64 0, .slice none 0 0, .slice none 0 0, .slice none 0 0] 205) from h43)
            have z0 := free12 (show w3.heap[w.heap.size]? = some (.cells #[.int .i64 0, .slice none 0 0, .int .i64 0, .int .i64 0, .int .i64 0, .slice none 0 0, .slice none 0 0, .bool false, .int .i64 0, .slice none 0 0, .slice none 0 0, .slice none 0 0] 205) from h43) 0
            have z1 := free12 (show w3.heap[w.heap.size]? = some (.cells #[.int .i64 0, .slice none 0 0, .int .i64 0, .int .i64 0, .int .i64 0, .slice none 0 0, .slice none 0 0, .bool false, .int .i64 0, .slice none 0 0, .slice none 0 0, .slice none 0 0] 205) from h43) 1
            have z2 := free12 (show w3.heap[w.heap.size]? = some (.cells #[.int .i64 0, .slice none 0 0, .int .i64 0, .int .i64 0, .int .i64 0, .slice none 0 0, .slice none 0 0, .bool false, .int .i64 0, .slice none 0 0, .slice none 0 0, .slice none 0 0] 205) from h43) 2
            have z3 := free12 (show w3.heap[w.heap.size]? = some (.cells #[.int .i64 0, .slice none 0 0, .int .i64 0, .int .i64 0, .int .i64 0, .slice none 0 0, .slice none 0 0, .bool false, .int .i64 0, .slice none 0 0, .slice none 0 0, .slice none 0 0] 205) from h43) 3
            have z4 := free12 (show w3.heap[w.heap.size]? = some (.cells #[.int .i64 0, .slice none 0 0, .int .i64 0, .int .i64 0, .int .i64 0, .slice none 0 0, .slice none 0 0, .bool false, .int .i64 0, .slice none 0 0, .slice none 0 0, .slice none 0 0] 205) from h43) 4
            have z5 := free12 (show w3.heap[w.heap.size]? = some (.cells #[.int .i64 0, .slice none 0 0, .int .i64 0, .int .i64 0, .int .i64 0, .slice none 0 0, .slice none 0 0, .bool false, .int .i64 0, .slice none 0 0, .slice none 0 0, .slice none 0 0] 205) from h43) 5
            have z6 := free12 (show w3.heap[w.heap.size]? = some (.cells #[.int .i64 0, .slice none 0 0, .int .i64 0, .int .i64 0, .int .i64 0, .slice none 0 0, .slice none 0 0, .bool false, .int .i64 0, .slice none 0 0, .slice none 0 0, .slice none 0 0] 205) from h43) 6
            have z7 := free12 (show w3.heap[w.heap.size]? = some (.cells #[.int .i64 0, .slice none 0 0, .int .i64 0, .int .i64 0, .int .i64 0, .slice none 0 0, .slice none 0 0, .bool false, .int .i64 0, .slice none 0 0, .slice none 0 0, .slice none 0 0] 205) from h43) 7
            have z8 := free12 (show w3.heap[w.heap.size]? = some (.cells #[.int .i64 0, .slice none 0 0, .int .i64 0, .int .i64 0, .int .i64 0, .slice none 0 0, .slice none 0 0, .bool false, .int .i64 0, .slice none 0 0, .slice none 0 0, .slice none 0 0] 205) from h43) 8
            have z9 := free12 (show w3.heap[w.heap.size]? = some (.cells #[.int .i64 0, .slice none 0 0, .int .i64 0, .int .i64 0, .int .i64 0, .slice none 0 0, .slice none 0 0, .bool false, .int .i64 0, .slice none 0 0, .slice none 0 0, .slice none 0 0] 205) from h43) 9
            have z10 := free12 (show w3.heap[w.heap.size]? = some (.cells #[.int .i64 0, .slice none 0 0, .int .i64 0, .int .i64 0, .int .i64 0, .slice none 0 0, .slice none 0 0, .bool false, .int .i64 0, .slice none 0 0, .slice none 0 0, .slice none 0 0] 205) from h43) 10
            have z11 := free12 (show w3.heap[w.heap.size]? = some (.cells #[.int .i64 0, .slice none 0 0, .int .i64 0, .int .i64 0, .int .i64 0, .slice none 0 0, .slice none 0 0, .bool false, .int .i64 0, .slice none 0 0, .slice none 0 0, .slice none 0 0] 205) from h43) 11
            obtain ⟨g0, g1, g2, g3, g4, g5, g6, g7, g8, g9, g10, g11⟩ := cells12 h53
            have y0 := free12 h53 0
            have y1 := free12 h53 1
            have y2 := free12 h53 2
            have y3 := free12 h53 3
            have y4 := free12 h53 4
            have y5 := free12 h53 5
            have y6 := free12 h53 6
            have y7 := free12 h53 7
            have y8 := free12 h53 8
            have y9 := free12 h53 9
            have y10 := free12 h53 10
            have y11 := free12 h53 11
            clear hR3 hB3 h43 h53
            go_wp2
            have b1 := setAll_heap [.int .i64 7, .slice (some ⟨w2.heap.size, 0, none⟩) 1 1, .int .i64 0, .int .i64 0, .int .i64 0, .slice none 0 0, .slice none 0 0, .bool false, .int .i64 0, .slice none 0 0, .slice none 0 0, .slice none 0 0] 0 (w3) _ H43.out
            rw [put12] at b1
            have b4 := setAll_below (Nat.le_refl w.heap.size) [.int .i64 7, .slice (some ⟨w2.heap.size, 0, none⟩) 1 1, .int .i64 0, .int .i64 0, .int .i64 0, .slice none 0 0, .slice none 0 0, .bool false, .int .i64 0, .slice none 0 0, .slice none 0 0, .slice none 0 0] 0 (w3) _ (Below.refl w.heap.size w3)
            have kp := setAll_keeps (b := w.heap.size) (fun k hk => by have : V1.heap.size ≤ k := hk; omega) [.int .i64 7, .slice (some ⟨w2.heap.size, 0, none⟩) 1 1, .int .i64 0, .int .i64 0, .int .i64 0, .slice none 0 0, .slice none 0 0, .bool false, .int .i64 0, .slice none 0 0, .slice none 0 0, .slice none 0 0] 0 (w3) _ HK3.out
            simp only [setAll] at b1 b4 kp
            have m0 := cell_of b1 0
            have m1 := cell_of b1 1
            have m2 := cell_of b1 2
            have m3 := cell_of b1 3
            have m4 := cell_of b1 4
            have m5 := cell_of b1 5
            have m6 := cell_of b1 6
            have m7 := cell_of b1 7
            have m8 := cell_of b1 8
            have m9 := cell_of b1 9
            have m10 := cell_of b1 10
            have m11 := cell_of b1 11
            simp at m0 m1 m2 m3 m4 m5 m6 m7 m8 m9 m10 m11
            refine bodyPost_ret (v := .agg #[.int .i64 7, .slice (some ⟨w2.heap.size, 0, none⟩) 1 1, .int .i64 0, .int .i64 0, .int .i64 0, .slice none 0 0, .slice none 0 0, .bool false, .int .i64 0, .slice none 0 0, .slice none 0 0, .slice none 0 0]) (by simp only [results, Tryz.results123]; simp [go_sem, m0, m1, m2, m3, m4, m5, m6, m7, m8, m9, m10, m11]) rfl ?_
            rw [HE.out]
            exact ⟨_, rfl, ⟨[.int .i64 7, .slice (some ⟨w2.heap.size, 0, none⟩) 1 1, .int .i64 0, .int .i64 0, .int .i64 0, .slice none 0 0, .slice none 0 0, .bool false, .int .i64 0, .slice none 0 0, .slice none 0 0, .slice none 0 0], rfl, ⟨_, _, _, _, _, _, rfl, TxtsM.imp HT.out (fun k hk => by have : V1.heap.size ≤ k := hk; show w.heap.size ≤ k; omega) kp, none_tst _ _ _, rowM_nil _ _ _ _ _ _, rowM_nil _ _ _ _ _ _⟩⟩, HR3.out.under b4 hbl, HB3.out.low b4⟩
    have HQ := hid (show cmdP (n + 1) true d r = thenR (takeTP 5 [59] q) fun _ q => .ok (⟨(k : Nat), [], noneT, [], []⟩, q) by
      rw [cmdP, hk]
      show (if _ then _ else if _ then _ else if _ then _ else _) = _
      rw [if_neg k2, if_neg k189, if_neg k567])
    have c1 : ((k : Int) == 1) = false := by rw [beq_eq_false_iff_ne]; omega
    have c2 : ((k : Int) == 2) = false := by rw [beq_eq_false_iff_ne]; omega
    have c5 : ((k : Int) == 5) = false := by rw [beq_eq_false_iff_ne]; omega
    have c6 : ((k : Int) == 6) = false := by rw [beq_eq_false_iff_ne]; omega
    have c7 : ((k : Int) == 7) = false := by rw [beq_eq_false_iff_ne]; omega
    have c8 : ((k : Int) == 8) = false := by rw [beq_eq_false_iff_ne]; omega
    have c9 : ((k : Int) == 9) = false := by rw [beq_eq_false_iff_ne]; omega
    clear hk k2 k189 k567
    obtain ⟨V1, hV1⟩ : ∃ V1, V1 = w1.alloc (.cells #[.int .i64 (k : Nat), .slice none 0 0, .int .i64 0, .int .i64 0, .int .i64 0, .slice none 0 0, .slice none 0 0, .bool false, .int .i64 0, .slice none 0 0, .slice none 0 0, .slice none 0 0] 205) := ⟨_, rfl⟩
    have halv : Below w1.heap.size w1 V1 := by rw [hV1]; exact (Below.refl _ _).alloc (Nat.le_refl _) _
    have H5V := hid (show V1.heap[w1.heap.size]? = some (.cells #[.int .i64 (k : Nat), .slice none 0 0, .int .i64 0, .int .i64 0, .int .i64 0, .slice none 0 0, .slice none 0 0, .bool false, .int .i64 0, .slice none 0 0, .slice none 0 0, .slice none 0 0] 205) by rw [hV1]; exact heap_alloc_new w1 _)
    have hltv : w1.heap.size < V1.heap.size := by rw [hV1]; simp
    have HVE := hid hV1
    have H4V := hid ((halv.block _ hlt1).trans H41.out)
    have HRV := hid (HR1.out.next halv)
    have HBV := hid (HB1.out.trans (But.of halv))
    have HWV := hid (HW1.out.next halv)
    clear hV1 halv
    go_wp2_with fail
    rw [← HVE.out]
    refine (rtake_any b A C L q 5 [59] V1 HRV.out (by omega)).mono ?_
    cases hy : takeTP 5 [59] q with
    | error m =>
      have HE := hid (show cmdP (n + 1) true d r = .error m by rw [HQ.out, hy]; rfl)
      clear hy
      rintro e w3 ⟨rfl, hB3⟩
      have HB3 := hid (HBV.out.trans hB3)
      clear hB3
      go_wp2
      rw [HE.out]
      exact ⟨rfl, rfl, HB3.out⟩
    | ok y =>
      obtain ⟨u, q3⟩ := y
      have HE := hid (show cmdP (n + 1) true d r = .ok (⟨(k : Nat), [], noneT, [], []⟩, q3) by rw [HQ.out, hy]; rfl)
      clear hy
      rintro e w3 ⟨v, rfl, rfl, hR3, hB3⟩
      have h43 := (hB3.block _ (by omega) hnb).trans H4V.out
      have h53 := (hB3.block _ (by omega) hn5b).trans H5V.out
      have hs3 := hB3.size
      have H43 := hid h43
      have HR3 := hid hR3
      have HB3 := hid (HBV.out.trans hB3)
      obtain ⟨a0, a1, a2, a3, a4, a5, a6, a7, a8, a9, a10, a11⟩ := cells12 (show w3.heap[w.heap.size]? = some (.cells #[.int .i64 0, .slice none 0 0, .int .i64 0, .int .i64 0, .int .i64 0, .slice none 0 0, .slice none 0 0, .bool false, .int .i64 0, .slice none 0 0, .slice none 0 0, .slice none 0 0] 205) from h43)
      have z0 := free12 (show w3.heap[w.heap.size]? = some (.cells #[.int .i64 0, .slice none 0 0, .int .i64 0, .int .i64 0, .int .i64 0, .slice none 0 0, .slice none 0 0, .bool false, .int .i64 0, .slice none 0 0, .slice none 0 0, .slice none 0 0] 205) from h43) 0
      have z1 := free12 (show w3.heap[w.heap.size]? = some (.cells #[.int .i64 0, .slice none 0 0, .int .i64 0, .int .i64 0, .int .i64 0, .slice none 0 0, .slice none 0 0, .bool false, .int .i64 0, .slice none 0 0, .slice none 0 0, .slice none 0 0] 205) from h43) 1
      have z2 := free12 (show w3.heap[w.heap.size]? = some (.cells #[.int .i64 0, .slice none 0 0, .int .i64 0, .int .i64 0, .int .i64 0, .slice none 0 0, .slice none 0 0, .bool false, .int .i64 0, .slice none 0 0, .slice none 0 0, .slice none 0 0] 205) from h43) 2
      have z3 := free12 (show w3.heap[w.heap.size]? = some (.cells #[.int .i64 0, .slice none 0 0, .int .i64 0, .int .i64 0, .int .i64 0, .slice none 0 0, .slice none 0 0, .bool false, .int .i64 0, .slice none 0 0, .slice none 0 0, .slice none 0 0] 205) from h43) 3
      have z4 := free12 (show w3.heap[w.heap.size]? = some (.cells #[.int .i64 0, .slice none 0 0, .int .i64 0, .int .i64 0, .int .i64 0, .slice none 0 0, .slice none 0 0, .bool false, .int .i64 0, .slice none 0 0, .slice none 0 0, .slice none 0 0] 205) from h43) 4
      have z5 := free12 (show w3.heap[w.heap.size]? = some (.cells #[.int .i64 0, .slice none 0 0, .int .i64 0, .int .i64 0, .int .i64 0, .slice none 0 0, .slice none 0 0, .bool false, .int .i64 0, .slice none 0 0, .slice none 0 0, .slice none 0 0] 205) from h43) 5
      have z6 := free12 (show w3.heap[w.heap.size]? = some (.cells #[.int .i64 0, .slice none 0 0, .int .i64 0, .int .i64 0, .int .i64 0, .slice none 0 0, .slice none 0 0, .bool false, .int .i64 0, .slice none 0 0, .slice none 0 0, .slice none 0 0] 205) from h43) 6
      have z7 := free12 (show w3.heap[w.heap.size]? = some (.cells #[.int .i64 0, .slice none 0 0, .int .i64 0, .int .i64 0, .int .i64 0, .slice none 0 0, .slice none 0 0, .bool false, .int .i64 0, .slice none 0 0, .slice none 0 0, .slice none 0 0] 205) from h43) 7
      have z8 := free12 (show w3.heap[w.heap.size]? = some (.cells #[.int .i64 0, .slice none 0 0, .int .i64 0, .int .i64 0, .int .i64 0, .slice none 0 0, .slice none 0 0, .bool false, .int .i64 0, .slice none 0 0, .slice none 0 0, .slice none 0 0] 205) from h43) 8
      have z9 := free12 (show w3.heap[w.heap.size]? = some (.cells #[.int .i64 0, .slice none 0 0, .int .i64 0, .int .i64 0, .int .i64 0, .slice none 0 0, .slice none 0 0, .bool false, .int .i64 0, .slice none 0 0, .slice none 0 0, .slice none 0 0] 205) from h43) 9
      have z10 := free12 (show w3.heap[w.heap.size]? = some (.cells #[.int .i64 0, .slice none 0 0, .int .i64 0, .int .i64 0, .int .i64 0, .slice none 0 0, .slice none 0 0, .bool false, .int .i64 0, .slice none 0 0, .slice none 0 0, .slice none 0 0] 205) from h43) 10
      have z11 := free12 (show w3.heap[w.heap.size]? = some (.cells #[.int .i64 0, .slice none 0 0, .int .i64 0, .int .i64 0, .int .i64 0, .slice none 0 0, .slice none 0 0, .bool false, .int .i64 0, .slice none 0 0, .slice none 0 0, .slice none 0 0] 205) from h43) 11
      obtain ⟨g0, g1, g2, g3, g4, g5, g6, g7, g8, g9, g10, g11⟩ := cells12 h53
      have y0 := free12 h53 0
      have y1 := free12 h53 1
      have y2 := free12 h53 2
      have y3 := free12 h53 3
      have y4 := free12 h53 4
      have y5 := free12 h53 5
      have y6 := free12 h53 6
      have y7 := free12 h53 7
      have y8 := free12 h53 8
      have y9 := free12 h53 9
      have y10 := free12 h53 10
      have y11 := free12 h53 11
      clear hR3 hB3 h43 h53
      go_wp2
      have b1 := setAll_heap [.int .i64 (k : Nat), .slice none 0 0, .int .i64 0, .int .i64 0, .int .i64 0, .slice none 0 0, .slice none 0 0, .bool false, .int .i64 0, .slice none 0 0, .slice none 0 0, .slice none 0 0] 0 (w3) _ H43.out
      rw [put12] at b1
      have b4 := setAll_below (Nat.le_refl w.heap.size) [.int .i64 (k : Nat), .slice none 0 0, .int .i64 0, .int .i64 0, .int .i64 0, .slice none 0 0, .slice none 0 0, .bool false, .int .i64 0, .slice none 0 0, .slice none 0 0, .slice none 0 0] 0 (w3) _ (Below.refl w.heap.size w3)
      simp only [setAll] at b1 b4
      have m0 := cell_of b1 0
      have m1 := cell_of b1 1
      have m2 := cell_of b1 2
      have m3 := cell_of b1 3
      have m4 := cell_of b1 4
      have m5 := cell_of b1 5
      have m6 := cell_of b1 6
      have m7 := cell_of b1 7
      have m8 := cell_of b1 8
      have m9 := cell_of b1 9
      have m10 := cell_of b1 10
      have m11 := cell_of b1 11
      simp at m0 m1 m2 m3 m4 m5 m6 m7 m8 m9 m10 m11
      refine bodyPost_ret (v := .agg #[.int .i64 (k : Nat), .slice none 0 0, .int .i64 0, .int .i64 0, .int .i64 0, .slice none 0 0, .slice none 0 0, .bool false, .int .i64 0, .slice none 0 0, .slice none 0 0, .slice none 0 0]) (by simp only [results, Tryz.results123]; simp [go_sem, m0, m1, m2, m3, m4, m5, m6, m7, m8, m9, m10, m11]) rfl ?_
      rw [HE.out]
      exact ⟨_, rfl, ⟨[.int .i64 (k : Nat), .slice none 0 0, .int .i64 0, .int .i64 0, .int .i64 0, .slice none 0 0, .slice none 0 0, .bool false, .int .i64 0, .slice none 0 0, .slice none 0 0, .slice none 0 0], rfl, ⟨_, _, _, _, _, _, rfl, rowM_nil _ _ _ _ _ _, none_tst _ _ _, rowM_nil _ _ _ _ _ _, rowM_nil _ _ _ _ _ _⟩⟩, HR3.out.under b4 hbl, HB3.out.low b4⟩
end Go.Proofs.YtepfniiojjefhaaGreatDoor
