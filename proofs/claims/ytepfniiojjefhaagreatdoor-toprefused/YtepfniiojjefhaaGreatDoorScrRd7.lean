/-
  What the reader's test does: the walk.
-/
import Derived.Test.YtepfniiojjefhaaGreatDoorScrRd6
namespace Go.Proofs.YtepfniiojjefhaaGreatDoor
open Go.RowKit Go.Proofs

def zero8 : Array Value := #[.int .i64 0, .int .i64 0, .int .i64 0, .slice none 0 0, .slice none 0 0, .bool false, .int .i64 0, .slice none 0 0]
theorem put8 (a b c d e f g h : Value) : putAll zero8 0 [a, b, c, d, e, f, g, h] = #[a, b, c, d, e, f, g, h] := by simp [putAll, zero8]
theorem RdS.setAll {w : World} {b : Nat} {A : Option Addr} {C : Nat} {L r : List Tok} (h : RdS w b A C L r) {k : Nat} (hk : b < k) (o : Nat) (vs : List Value) : RdS (setAll w k o vs) b A C L r := h.under (setAll_below (Nat.le_refl k) vs o w w (Below.refl _ _)) hk
theorem But.setAll {b : Nat} {w w' : World} (h : But b w w') {k : Nat} (hk : w.heap.size ≤ k) (o : Nat) (vs : List Value) : But b w (setAll w' k o vs) := h.low (setAll_below hk vs o w' w' (Below.refl _ _))
theorem setAll_other {b k : Nat} (hn : k ≠ b) : ∀ (vs : List Value) (o : Nat) (w : World), (setAll w b o vs).heap[k]? = w.heap[k]? := by
  intro vs
  induction vs with
  | nil => intro o w; rfl
  | cons v vs ih => intro o w; exact (ih (o + 1) _).trans (Below.heap_setCell _ _ _ _ hn)
set_option maxHeartbeats 16000000 in
set_option maxRecDepth 100000 in
theorem rtest_step (n : Nat) (ih : RdT n) : RdT (n + 1) := by
  intro d b A C L r w h hw hG hn hd
  have H := hid h
  have HW := hid hw
  have HIH := hid ih
  have hbl := h.lt
  have hsm := h.small
  clear h hw ih
  obtain ⟨W0, hW0⟩ : ∃ W0, W0 = w.alloc (.cells #[.int .i64 0, .int .i64 0, .int .i64 0, .slice none 0 0, .slice none 0 0, .bool false, .int .i64 0, .slice none 0 0] 203) := ⟨_, rfl⟩
  have hal : Below w.heap.size w W0 := by rw [hW0]; exact (Below.refl _ _).alloc (Nat.le_refl _) _
  have hlt0 : w.heap.size < W0.heap.size := by rw [hW0]; simp
  have HH0 := hid (show W0.heap[w.heap.size]? = some (.cells zero8 203) by rw [hW0]; exact heap_alloc_new w _)
  have HWE := hid hW0
  have HAL := hid hal
  have hnb : w.heap.size ≠ b := by omega
  clear hW0 hal
  go_enter Tryz.func195, Tryz.ntmps195
  go_wp2_with fail
  rw [← HWE.out]
  refine (rkind_any b A C L r 1 d W0 (H.out.next HAL.out) (by omega) (HW.out.next HAL.out)).mono ?_
  cases hk : kindP 1 d r with
  | error m =>
    have HE := hid (show testP (n + 1) d r = .error m by unfold testP; rw [hk]; rfl)
    clear hk
    rintro e w1 ⟨rfl, hB1⟩
    have HB1 := hid ((But.of HAL.out).trans hB1)
    clear hB1
    go_wp2
    rw [HE.out]
    exact ⟨rfl, rfl, HB1.out⟩
  | ok y =>
    obtain ⟨k, q⟩ := y
    have hql := kindP_len hk
    obtain ⟨hd6, hk0, _⟩ := kindP_ok hk
    rintro e w1 ⟨v, rfl, rfl, hR1, hB1⟩
    have HB1 := hid (show But b w w1 from (But.of HAL.out).trans hB1)
    have HR1 := hid hR1
    have HW1 := hid (HW.out.but HB1.out hG)
    have h41 : w1.heap[w.heap.size]? = some (.cells zero8 203) := (hB1.block _ hlt0 hnb).trans HH0.out
    have hlt1 : w.heap.size < w1.heap.size := Nat.lt_of_lt_of_le hlt0 hB1.size
    have hbl1 := hR1.lt
    have H41 := hid h41
    have hn5 : w.heap.size ≠ w1.heap.size := by omega
    have hn5b : w1.heap.size ≠ b := by omega
    have a0 : w1.cell? ⟨w.heap.size, 0, none⟩ = some (.int .i64 0) := by simp [World.cell?, h41, zero8]
    have a1 : w1.cell? ⟨w.heap.size, 1, none⟩ = some (.int .i64 0) := by simp [World.cell?, h41, zero8]
    have a2 : w1.cell? ⟨w.heap.size, 2, none⟩ = some (.int .i64 0) := by simp [World.cell?, h41, zero8]
    have a3 : w1.cell? ⟨w.heap.size, 3, none⟩ = some (.slice none 0 0) := by simp [World.cell?, h41, zero8]
    have a4 : w1.cell? ⟨w.heap.size, 4, none⟩ = some (.slice none 0 0) := by simp [World.cell?, h41, zero8]
    have a5 : w1.cell? ⟨w.heap.size, 5, none⟩ = some (.bool false) := by simp [World.cell?, h41, zero8]
    have a6 : w1.cell? ⟨w.heap.size, 6, none⟩ = some (.int .i64 0) := by simp [World.cell?, h41, zero8]
    have a7 : w1.cell? ⟨w.heap.size, 7, none⟩ = some (.slice none 0 0) := by simp [World.cell?, h41, zero8]
    have z0 : w1.frozen? ⟨w.heap.size, 0, none⟩ = false := by simp [World.frozen?, h41]
    have z1 : w1.frozen? ⟨w.heap.size, 1, none⟩ = false := by simp [World.frozen?, h41]
    have z2 : w1.frozen? ⟨w.heap.size, 2, none⟩ = false := by simp [World.frozen?, h41]
    have z3 : w1.frozen? ⟨w.heap.size, 3, none⟩ = false := by simp [World.frozen?, h41]
    have z4 : w1.frozen? ⟨w.heap.size, 4, none⟩ = false := by simp [World.frozen?, h41]
    have z5 : w1.frozen? ⟨w.heap.size, 5, none⟩ = false := by simp [World.frozen?, h41]
    have z6 : w1.frozen? ⟨w.heap.size, 6, none⟩ = false := by simp [World.frozen?, h41]
    have z7 : w1.frozen? ⟨w.heap.size, 7, none⟩ = false := by simp [World.frozen?, h41]
    have hd1 : (d : Int) ≤ 6 := by omega
    have hd0 : (0 : Int) ≤ (d : Int) := by omega
    clear hR1 hB1 h41
    by_cases k3 : k = 3
    · subst k3
      have HQ := hid (show testP (n + 1) d r = thenR (testP n (d + 1) q) fun x q => .ok ({ noneT with kind := 3, tests := [x] }, q) by
        rw [testP, hk]
        rfl)
      clear hk
      obtain ⟨V1, hV1⟩ : ∃ V1, V1 = w1.alloc (.cells #[.int .i64 3, .int .i64 0, .int .i64 0, .slice none 0 0, .slice none 0 0, .bool false, .int .i64 0, .slice none 0 0] 203) := ⟨_, rfl⟩
      have halv : Below w1.heap.size w1 V1 := by rw [hV1]; exact (Below.refl _ _).alloc (Nat.le_refl _) _
      have H5V := hid (show V1.heap[w1.heap.size]? = some (.cells #[.int .i64 3, .int .i64 0, .int .i64 0, .slice none 0 0, .slice none 0 0, .bool false, .int .i64 0, .slice none 0 0] 203) by rw [hV1]; exact heap_alloc_new w1 _)
      have hltv : w1.heap.size < V1.heap.size := by rw [hV1]; simp
      have HVE := hid hV1
      have H4V := hid ((halv.block _ hlt1).trans H41.out)
      have HRV := hid (HR1.out.next halv)
      have HBV := hid (HB1.out.trans (But.of halv))
      have HWV := hid (HW1.out.next halv)
      clear hV1 halv a0 a1 a2 a3 a4 a5 a6 a7 z0 z1 z2 z3 z4 z5 z6 z7
      go_wp2_with fail
      rw [← HVE.out]
      rw [show ((d : Int) + 1) = ((d + 1 : Nat) : Int) from rfl]
      refine (HIH.out (d + 1) b A C L q V1 HRV.out HWV.out hG (by omega) (by omega)).mono ?_
      cases hx : testP n (d + 1) q with
      | error m =>
        have HE := hid (show testP (n + 1) d r = .error m by rw [HQ.out, hx]; rfl)
        clear hx
        rintro e w2 ⟨rfl, hB2⟩
        have HB2 := hid (HBV.out.trans hB2)
        clear hB2
        go_wp2
        rw [HE.out]
        exact ⟨rfl, rfl, HB2.out⟩
      | ok y =>
        obtain ⟨x, q2⟩ := y
        have HE := hid (show testP (n + 1) d r = .ok ({ noneT with kind := 3, tests := [x] }, q2) by rw [HQ.out, hx]; rfl)
        clear hx
        rintro e w2 ⟨v, rfl, ⟨cs, rfl, hT⟩, hR2, hB2⟩
        obtain ⟨an, cn, ak, ck, at', ct, m0, _, rfl, _⟩ := tst_form hT
        have h42 := (hB2.block _ (Nat.lt_trans hlt1 hltv) hnb).trans H4V.out
        have h52 := (hB2.block _ hltv hn5b).trans H5V.out
        have hs2 := hB2.size
        have a0 : w2.cell? ⟨w.heap.size, 0, none⟩ = some (.int .i64 0) := by simp [World.cell?, h42, zero8]
        have a1 : w2.cell? ⟨w.heap.size, 1, none⟩ = some (.int .i64 0) := by simp [World.cell?, h42, zero8]
        have a2 : w2.cell? ⟨w.heap.size, 2, none⟩ = some (.int .i64 0) := by simp [World.cell?, h42, zero8]
        have a3 : w2.cell? ⟨w.heap.size, 3, none⟩ = some (.slice none 0 0) := by simp [World.cell?, h42, zero8]
        have a4 : w2.cell? ⟨w.heap.size, 4, none⟩ = some (.slice none 0 0) := by simp [World.cell?, h42, zero8]
        have a5 : w2.cell? ⟨w.heap.size, 5, none⟩ = some (.bool false) := by simp [World.cell?, h42, zero8]
        have a6 : w2.cell? ⟨w.heap.size, 6, none⟩ = some (.int .i64 0) := by simp [World.cell?, h42, zero8]
        have a7 : w2.cell? ⟨w.heap.size, 7, none⟩ = some (.slice none 0 0) := by simp [World.cell?, h42, zero8]
        have z0 : w2.frozen? ⟨w.heap.size, 0, none⟩ = false := by simp [World.frozen?, h42]
        have z1 : w2.frozen? ⟨w.heap.size, 1, none⟩ = false := by simp [World.frozen?, h42]
        have z2 : w2.frozen? ⟨w.heap.size, 2, none⟩ = false := by simp [World.frozen?, h42]
        have z3 : w2.frozen? ⟨w.heap.size, 3, none⟩ = false := by simp [World.frozen?, h42]
        have z4 : w2.frozen? ⟨w.heap.size, 4, none⟩ = false := by simp [World.frozen?, h42]
        have z5 : w2.frozen? ⟨w.heap.size, 5, none⟩ = false := by simp [World.frozen?, h42]
        have z6 : w2.frozen? ⟨w.heap.size, 6, none⟩ = false := by simp [World.frozen?, h42]
        have z7 : w2.frozen? ⟨w.heap.size, 7, none⟩ = false := by simp [World.frozen?, h42]
        have g0 : w2.cell? ⟨w1.heap.size, 0, none⟩ = some (.int .i64 3) := by simp [World.cell?, h52]
        have g1 : w2.cell? ⟨w1.heap.size, 1, none⟩ = some (.int .i64 0) := by simp [World.cell?, h52]
        have g2 : w2.cell? ⟨w1.heap.size, 2, none⟩ = some (.int .i64 0) := by simp [World.cell?, h52]
        have g3 : w2.cell? ⟨w1.heap.size, 3, none⟩ = some (.slice none 0 0) := by simp [World.cell?, h52]
        have g4 : w2.cell? ⟨w1.heap.size, 4, none⟩ = some (.slice none 0 0) := by simp [World.cell?, h52]
        have g5 : w2.cell? ⟨w1.heap.size, 5, none⟩ = some (.bool false) := by simp [World.cell?, h52]
        have g6 : w2.cell? ⟨w1.heap.size, 6, none⟩ = some (.int .i64 0) := by simp [World.cell?, h52]
        have g7 : w2.cell? ⟨w1.heap.size, 7, none⟩ = some (.slice none 0 0) := by simp [World.cell?, h52]
        have y0 : w2.frozen? ⟨w1.heap.size, 0, none⟩ = false := by simp [World.frozen?, h52]
        have y1 : w2.frozen? ⟨w1.heap.size, 1, none⟩ = false := by simp [World.frozen?, h52]
        have y2 : w2.frozen? ⟨w1.heap.size, 2, none⟩ = false := by simp [World.frozen?, h52]
        have y3 : w2.frozen? ⟨w1.heap.size, 3, none⟩ = false := by simp [World.frozen?, h52]
        have y4 : w2.frozen? ⟨w1.heap.size, 4, none⟩ = false := by simp [World.frozen?, h52]
        have y5 : w2.frozen? ⟨w1.heap.size, 5, none⟩ = false := by simp [World.frozen?, h52]
        have y6 : w2.frozen? ⟨w1.heap.size, 6, none⟩ = false := by simp [World.frozen?, h52]
        have y7 : w2.frozen? ⟨w1.heap.size, 7, none⟩ = false := by simp [World.frozen?, h52]
        have HR2 := hid hR2
        have HB2 := hid (HBV.out.trans hB2)
        have HT := hid hT
        have H4u := hid ((setAll_other hn5 [.slice (some ⟨w2.heap.size, 0, none⟩) 1 1] 7 w2).trans h42)
        have HUb := hid (setAll_below (show w.heap.size ≤ w1.heap.size by omega) [.slice (some ⟨w2.heap.size, 0, none⟩) 1 1] 7 w2 w2 (Below.refl w.heap.size w2))
        have HKP := hid (((setAll_keeps (Q := newB V1.heap.size) (b := w.heap.size) (fun k hk => by have : V1.heap.size ≤ k := hk; omega) [.int .i64 3, .int .i64 0, .int .i64 0, .slice none 0 0, .slice none 0 0, .bool false, .int .i64 0, .slice (some ⟨w2.heap.size, 0, none⟩) 1 1] 0 _ w2 (setAll_keeps (b := w1.heap.size) (fun k hk => by have : V1.heap.size ≤ k := hk; omega) [.slice (some ⟨w2.heap.size, 0, none⟩) 1 1] 7 w2 w2 (Keeps.refl _ _)))).more (.cells #[.int .i64 x.kind, .int .i64 x.mat, .int .i64 x.part, .slice an x.names.length cn, .slice ak x.keys.length ck, .bool x.over, .int .i64 x.limit, .slice at' x.tests.length ct] 203))
        have hpw : w.heap.size ≤ w2.heap.size := by omega
        have h5lt : w1.heap.size < w2.heap.size := by omega
        have h4lt : w.heap.size < w2.heap.size := by omega
        have h5ne : w1.heap.size ≠ w2.heap.size := by omega
        have h4ne : w.heap.size ≠ w2.heap.size := by omega
        clear hR2 hB2 hT h42 h52
        go_wp2
        obtain ⟨b1, b2, b3, b4, b5⟩ := boxed (t := 203) 0 [.int .i64 3, .int .i64 0, .int .i64 0, .slice none 0 0, .slice none 0 0, .bool false, .int .i64 0, .slice (some ⟨w2.heap.size, 0, none⟩) 1 1] (.cells #[.int .i64 x.kind, .int .i64 x.mat, .int .i64 x.part, .slice an x.names.length cn, .slice ak x.keys.length ck, .bool x.over, .int .i64 x.limit, .slice at' x.tests.length ct] 203) H4u.out HUb.out (Nat.le_refl _) #[.int .i64 3, .int .i64 0, .int .i64 0, .slice none 0 0, .slice none 0 0, .bool false, .int .i64 0, .slice (some ⟨w2.heap.size, 0, none⟩) 1 1] (put8 _ _ _ _ _ _ _ _)
        rw [setAll_size] at b2
        have kp := HKP.out
        simp only [setAll] at b1 b2 b4 kp
        have m0 := cell_of b1 0
        have m1 := cell_of b1 1
        have m2 := cell_of b1 2
        have m3 := cell_of b1 3
        have m4 := cell_of b1 4
        have m5 := cell_of b1 5
        have m6 := cell_of b1 6
        have m7 := cell_of b1 7
        simp at m0 m1 m2 m3 m4 m5 m6 m7
        refine bodyPost_ret (v := .agg #[.int .i64 3, .int .i64 0, .int .i64 0, .slice none 0 0, .slice none 0 0, .bool false, .int .i64 0, .slice (some ⟨w2.heap.size, 0, none⟩) 1 1]) (by simp only [results, Tryz.results195]; simp [go_sem, m0, m1, m2, m3, m4, m5, m6, m7]) rfl ?_
        rw [HE.out]
        refine ⟨_, rfl, ⟨[.int .i64 3, .int .i64 0, .int .i64 0, .slice none 0 0, .slice none 0 0, .bool false, .int .i64 0, .slice (some ⟨w2.heap.size, 0, none⟩) 1 1], rfl, ⟨_, _, _, rfl, rowM_nil _ _ _ _ _ _, rowM_nil _ _ _ _ _ _, ?_⟩⟩, HR2.out.under b4 hbl, HB2.out.low b4⟩
        exact rowM_one (cs := [.int .i64 x.kind, .int .i64 x.mat, .int .i64 x.part, .slice an x.names.length cn, .slice ak x.keys.length ck, .bool x.over, .int .i64 x.limit, .slice at' x.tests.length ct]) b2 rfl hpw (TstM.imp (fun k hk => by have : V1.heap.size ≤ k := hk; show w.heap.size ≤ k; omega) kp _ _ _ HT.out)
    by_cases k45 : k = 4 ∨ k = 5
    · rcases k45 with e4 | e5
      · subst e4
        have HQ := hid (show testP (n + 1) d r = thenR (testsR (testP n (d + 1)) q) fun l q => .ok ({ noneT with kind := (4 : Nat), tests := l }, q) by
          rw [testP, hk]
          rfl)
        clear hk
        obtain ⟨V1, hV1⟩ : ∃ V1, V1 = w1.alloc (.cells #[.int .i64 4, .int .i64 0, .int .i64 0, .slice none 0 0, .slice none 0 0, .bool false, .int .i64 0, .slice none 0 0] 203) := ⟨_, rfl⟩
        have halv : Below w1.heap.size w1 V1 := by rw [hV1]; exact (Below.refl _ _).alloc (Nat.le_refl _) _
        have H5V := hid (show V1.heap[w1.heap.size]? = some (.cells #[.int .i64 4, .int .i64 0, .int .i64 0, .slice none 0 0, .slice none 0 0, .bool false, .int .i64 0, .slice none 0 0] 203) by rw [hV1]; exact heap_alloc_new w1 _)
        have hltv : w1.heap.size < V1.heap.size := by rw [hV1]; simp
        have HVE := hid hV1
        have H4V := hid ((halv.block _ hlt1).trans H41.out)
        have HRV := hid (HR1.out.next halv)
        have HBV := hid (HB1.out.trans (But.of halv))
        have HWV := hid (HW1.out.next halv)
        clear hV1 halv a0 a1 a2 a3 a4 a5 a6 a7 z0 z1 z2 z3 z4 z5 z6 z7
        go_wp2_with fail
        rw [← HVE.out]
        rw [show ((d : Int) + 1) = ((d + 1 : Nat) : Int) from rfl]
        refine (rtests_of n HIH.out (d + 1) b A C L q V1 HRV.out HWV.out hG (by omega) (by omega)).mono ?_
        cases hx : testsR (testP n (d + 1)) q with
        | error m =>
          have HE := hid (show testP (n + 1) d r = .error m by rw [HQ.out, hx]; rfl)
          clear hx
          rintro e w2 ⟨rfl, hB2⟩
          have HB2 := hid (HBV.out.trans hB2)
          clear hB2
          go_wp2
          rw [HE.out]
          exact ⟨rfl, rfl, HB2.out⟩
        | ok y =>
          obtain ⟨x, q2⟩ := y
          have HE := hid (show testP (n + 1) d r = .ok ({ noneT with kind := (4 : Nat), tests := x }, q2) by rw [HQ.out, hx]; rfl)
          clear hx
          rintro e w2 ⟨v, rfl, ⟨hT, _⟩, hR2, hB2⟩
          obtain ⟨at', ct, rfl⟩ := hT.slice
          have HT := hid hT
          clear hT
          have h42 := (hB2.block _ (Nat.lt_trans hlt1 hltv) hnb).trans H4V.out
          have h52 := (hB2.block _ hltv hn5b).trans H5V.out
          have hs2 := hB2.size
          have a0 : w2.cell? ⟨w.heap.size, 0, none⟩ = some (.int .i64 0) := by simp [World.cell?, h42, zero8]
          have a1 : w2.cell? ⟨w.heap.size, 1, none⟩ = some (.int .i64 0) := by simp [World.cell?, h42, zero8]
          have a2 : w2.cell? ⟨w.heap.size, 2, none⟩ = some (.int .i64 0) := by simp [World.cell?, h42, zero8]
          have a3 : w2.cell? ⟨w.heap.size, 3, none⟩ = some (.slice none 0 0) := by simp [World.cell?, h42, zero8]
          have a4 : w2.cell? ⟨w.heap.size, 4, none⟩ = some (.slice none 0 0) := by simp [World.cell?, h42, zero8]
          have a5 : w2.cell? ⟨w.heap.size, 5, none⟩ = some (.bool false) := by simp [World.cell?, h42, zero8]
          have a6 : w2.cell? ⟨w.heap.size, 6, none⟩ = some (.int .i64 0) := by simp [World.cell?, h42, zero8]
          have a7 : w2.cell? ⟨w.heap.size, 7, none⟩ = some (.slice none 0 0) := by simp [World.cell?, h42, zero8]
          have z0 : w2.frozen? ⟨w.heap.size, 0, none⟩ = false := by simp [World.frozen?, h42]
          have z1 : w2.frozen? ⟨w.heap.size, 1, none⟩ = false := by simp [World.frozen?, h42]
          have z2 : w2.frozen? ⟨w.heap.size, 2, none⟩ = false := by simp [World.frozen?, h42]
          have z3 : w2.frozen? ⟨w.heap.size, 3, none⟩ = false := by simp [World.frozen?, h42]
          have z4 : w2.frozen? ⟨w.heap.size, 4, none⟩ = false := by simp [World.frozen?, h42]
          have z5 : w2.frozen? ⟨w.heap.size, 5, none⟩ = false := by simp [World.frozen?, h42]
          have z6 : w2.frozen? ⟨w.heap.size, 6, none⟩ = false := by simp [World.frozen?, h42]
          have z7 : w2.frozen? ⟨w.heap.size, 7, none⟩ = false := by simp [World.frozen?, h42]
          have g0 : w2.cell? ⟨w1.heap.size, 0, none⟩ = some (.int .i64 4) := by simp [World.cell?, h52]
          have g1 : w2.cell? ⟨w1.heap.size, 1, none⟩ = some (.int .i64 0) := by simp [World.cell?, h52]
          have g2 : w2.cell? ⟨w1.heap.size, 2, none⟩ = some (.int .i64 0) := by simp [World.cell?, h52]
          have g3 : w2.cell? ⟨w1.heap.size, 3, none⟩ = some (.slice none 0 0) := by simp [World.cell?, h52]
          have g4 : w2.cell? ⟨w1.heap.size, 4, none⟩ = some (.slice none 0 0) := by simp [World.cell?, h52]
          have g5 : w2.cell? ⟨w1.heap.size, 5, none⟩ = some (.bool false) := by simp [World.cell?, h52]
          have g6 : w2.cell? ⟨w1.heap.size, 6, none⟩ = some (.int .i64 0) := by simp [World.cell?, h52]
          have g7 : w2.cell? ⟨w1.heap.size, 7, none⟩ = some (.slice none 0 0) := by simp [World.cell?, h52]
          have y0 : w2.frozen? ⟨w1.heap.size, 0, none⟩ = false := by simp [World.frozen?, h52]
          have y1 : w2.frozen? ⟨w1.heap.size, 1, none⟩ = false := by simp [World.frozen?, h52]
          have y2 : w2.frozen? ⟨w1.heap.size, 2, none⟩ = false := by simp [World.frozen?, h52]
          have y3 : w2.frozen? ⟨w1.heap.size, 3, none⟩ = false := by simp [World.frozen?, h52]
          have y4 : w2.frozen? ⟨w1.heap.size, 4, none⟩ = false := by simp [World.frozen?, h52]
          have y5 : w2.frozen? ⟨w1.heap.size, 5, none⟩ = false := by simp [World.frozen?, h52]
          have y6 : w2.frozen? ⟨w1.heap.size, 6, none⟩ = false := by simp [World.frozen?, h52]
          have y7 : w2.frozen? ⟨w1.heap.size, 7, none⟩ = false := by simp [World.frozen?, h52]
          have HR2 := hid hR2
          have HB2 := hid (HBV.out.trans hB2)
          have H4u := hid ((setAll_other hn5 [.slice at' x.length ct] 7 w2).trans h42)
          have HUb := hid (setAll_below (show w.heap.size ≤ w1.heap.size by omega) [.slice at' x.length ct] 7 w2 w2 (Below.refl w.heap.size w2))
          have HKP := hid (setAll_keeps (Q := newB V1.heap.size) (b := w.heap.size) (fun k hk => by have : V1.heap.size ≤ k := hk; omega) [.int .i64 4, .int .i64 0, .int .i64 0, .slice none 0 0, .slice none 0 0, .bool false, .int .i64 0, .slice at' x.length ct] 0 _ w2 (setAll_keeps (b := w1.heap.size) (fun k hk => by have : V1.heap.size ≤ k := hk; omega) [.slice at' x.length ct] 7 w2 w2 (Keeps.refl _ _)))
          clear hR2 hB2 h42 h52
          go_wp2
          have b1 := setAll_heap [.int .i64 4, .int .i64 0, .int .i64 0, .slice none 0 0, .slice none 0 0, .bool false, .int .i64 0, .slice at' x.length ct] 0 _ _ H4u.out
          rw [put8] at b1
          have b4 := setAll_below (Nat.le_refl w.heap.size) [.int .i64 4, .int .i64 0, .int .i64 0, .slice none 0 0, .slice none 0 0, .bool false, .int .i64 0, .slice at' x.length ct] 0 _ _ HUb.out
          have kp := HKP.out
          simp only [setAll] at b1 b4 kp
          have m0 := cell_of b1 0
          have m1 := cell_of b1 1
          have m2 := cell_of b1 2
          have m3 := cell_of b1 3
          have m4 := cell_of b1 4
          have m5 := cell_of b1 5
          have m6 := cell_of b1 6
          have m7 := cell_of b1 7
          simp at m0 m1 m2 m3 m4 m5 m6 m7
          refine bodyPost_ret (v := .agg #[.int .i64 4, .int .i64 0, .int .i64 0, .slice none 0 0, .slice none 0 0, .bool false, .int .i64 0, .slice at' x.length ct]) (by simp only [results, Tryz.results195]; simp [go_sem, m0, m1, m2, m3, m4, m5, m6, m7]) rfl ?_
          rw [HE.out]
          exact ⟨_, rfl, ⟨[.int .i64 4, .int .i64 0, .int .i64 0, .slice none 0 0, .slice none 0 0, .bool false, .int .i64 0, .slice at' x.length ct], rfl, ⟨_, _, _, rfl, rowM_nil _ _ _ _ _ _, rowM_nil _ _ _ _ _ _, RowM.imp HT.out (fun k hk => by have : V1.heap.size ≤ k := hk; show w.heap.size ≤ k; omega) kp (fun _ _ h => TstM.imp (fun k hk => by have : V1.heap.size ≤ k := hk; show w.heap.size ≤ k; omega) kp _ _ _ h)⟩⟩, HR2.out.under b4 hbl, HB2.out.low b4⟩
      · subst e5
        have HQ := hid (show testP (n + 1) d r = thenR (testsR (testP n (d + 1)) q) fun l q => .ok ({ noneT with kind := (5 : Nat), tests := l }, q) by
          rw [testP, hk]
          rfl)
        clear hk
        obtain ⟨V1, hV1⟩ : ∃ V1, V1 = w1.alloc (.cells #[.int .i64 5, .int .i64 0, .int .i64 0, .slice none 0 0, .slice none 0 0, .bool false, .int .i64 0, .slice none 0 0] 203) := ⟨_, rfl⟩
        have halv : Below w1.heap.size w1 V1 := by rw [hV1]; exact (Below.refl _ _).alloc (Nat.le_refl _) _
        have H5V := hid (show V1.heap[w1.heap.size]? = some (.cells #[.int .i64 5, .int .i64 0, .int .i64 0, .slice none 0 0, .slice none 0 0, .bool false, .int .i64 0, .slice none 0 0] 203) by rw [hV1]; exact heap_alloc_new w1 _)
        have hltv : w1.heap.size < V1.heap.size := by rw [hV1]; simp
        have HVE := hid hV1
        have H4V := hid ((halv.block _ hlt1).trans H41.out)
        have HRV := hid (HR1.out.next halv)
        have HBV := hid (HB1.out.trans (But.of halv))
        have HWV := hid (HW1.out.next halv)
        clear hV1 halv a0 a1 a2 a3 a4 a5 a6 a7 z0 z1 z2 z3 z4 z5 z6 z7
        go_wp2_with fail
        rw [← HVE.out]
        rw [show ((d : Int) + 1) = ((d + 1 : Nat) : Int) from rfl]
        refine (rtests_of n HIH.out (d + 1) b A C L q V1 HRV.out HWV.out hG (by omega) (by omega)).mono ?_
        cases hx : testsR (testP n (d + 1)) q with
        | error m =>
          have HE := hid (show testP (n + 1) d r = .error m by rw [HQ.out, hx]; rfl)
          clear hx
          rintro e w2 ⟨rfl, hB2⟩
          have HB2 := hid (HBV.out.trans hB2)
          clear hB2
          go_wp2
          rw [HE.out]
          exact ⟨rfl, rfl, HB2.out⟩
        | ok y =>
          obtain ⟨x, q2⟩ := y
          have HE := hid (show testP (n + 1) d r = .ok ({ noneT with kind := (5 : Nat), tests := x }, q2) by rw [HQ.out, hx]; rfl)
          clear hx
          rintro e w2 ⟨v, rfl, ⟨hT, _⟩, hR2, hB2⟩
          obtain ⟨at', ct, rfl⟩ := hT.slice
          have HT := hid hT
          clear hT
          have h42 := (hB2.block _ (Nat.lt_trans hlt1 hltv) hnb).trans H4V.out
          have h52 := (hB2.block _ hltv hn5b).trans H5V.out
          have hs2 := hB2.size
          have a0 : w2.cell? ⟨w.heap.size, 0, none⟩ = some (.int .i64 0) := by simp [World.cell?, h42, zero8]
          have a1 : w2.cell? ⟨w.heap.size, 1, none⟩ = some (.int .i64 0) := by simp [World.cell?, h42, zero8]
          have a2 : w2.cell? ⟨w.heap.size, 2, none⟩ = some (.int .i64 0) := by simp [World.cell?, h42, zero8]
          have a3 : w2.cell? ⟨w.heap.size, 3, none⟩ = some (.slice none 0 0) := by simp [World.cell?, h42, zero8]
          have a4 : w2.cell? ⟨w.heap.size, 4, none⟩ = some (.slice none 0 0) := by simp [World.cell?, h42, zero8]
          have a5 : w2.cell? ⟨w.heap.size, 5, none⟩ = some (.bool false) := by simp [World.cell?, h42, zero8]
          have a6 : w2.cell? ⟨w.heap.size, 6, none⟩ = some (.int .i64 0) := by simp [World.cell?, h42, zero8]
          have a7 : w2.cell? ⟨w.heap.size, 7, none⟩ = some (.slice none 0 0) := by simp [World.cell?, h42, zero8]
          have z0 : w2.frozen? ⟨w.heap.size, 0, none⟩ = false := by simp [World.frozen?, h42]
          have z1 : w2.frozen? ⟨w.heap.size, 1, none⟩ = false := by simp [World.frozen?, h42]
          have z2 : w2.frozen? ⟨w.heap.size, 2, none⟩ = false := by simp [World.frozen?, h42]
          have z3 : w2.frozen? ⟨w.heap.size, 3, none⟩ = false := by simp [World.frozen?, h42]
          have z4 : w2.frozen? ⟨w.heap.size, 4, none⟩ = false := by simp [World.frozen?, h42]
          have z5 : w2.frozen? ⟨w.heap.size, 5, none⟩ = false := by simp [World.frozen?, h42]
          have z6 : w2.frozen? ⟨w.heap.size, 6, none⟩ = false := by simp [World.frozen?, h42]
          have z7 : w2.frozen? ⟨w.heap.size, 7, none⟩ = false := by simp [World.frozen?, h42]
          have g0 : w2.cell? ⟨w1.heap.size, 0, none⟩ = some (.int .i64 5) := by simp [World.cell?, h52]
          have g1 : w2.cell? ⟨w1.heap.size, 1, none⟩ = some (.int .i64 0) := by simp [World.cell?, h52]
          have g2 : w2.cell? ⟨w1.heap.size, 2, none⟩ = some (.int .i64 0) := by simp [World.cell?, h52]
          have g3 : w2.cell? ⟨w1.heap.size, 3, none⟩ = some (.slice none 0 0) := by simp [World.cell?, h52]
          have g4 : w2.cell? ⟨w1.heap.size, 4, none⟩ = some (.slice none 0 0) := by simp [World.cell?, h52]
          have g5 : w2.cell? ⟨w1.heap.size, 5, none⟩ = some (.bool false) := by simp [World.cell?, h52]
          have g6 : w2.cell? ⟨w1.heap.size, 6, none⟩ = some (.int .i64 0) := by simp [World.cell?, h52]
          have g7 : w2.cell? ⟨w1.heap.size, 7, none⟩ = some (.slice none 0 0) := by simp [World.cell?, h52]
          have y0 : w2.frozen? ⟨w1.heap.size, 0, none⟩ = false := by simp [World.frozen?, h52]
          have y1 : w2.frozen? ⟨w1.heap.size, 1, none⟩ = false := by simp [World.frozen?, h52]
          have y2 : w2.frozen? ⟨w1.heap.size, 2, none⟩ = false := by simp [World.frozen?, h52]
          have y3 : w2.frozen? ⟨w1.heap.size, 3, none⟩ = false := by simp [World.frozen?, h52]
          have y4 : w2.frozen? ⟨w1.heap.size, 4, none⟩ = false := by simp [World.frozen?, h52]
          have y5 : w2.frozen? ⟨w1.heap.size, 5, none⟩ = false := by simp [World.frozen?, h52]
          have y6 : w2.frozen? ⟨w1.heap.size, 6, none⟩ = false := by simp [World.frozen?, h52]
          have y7 : w2.frozen? ⟨w1.heap.size, 7, none⟩ = false := by simp [World.frozen?, h52]
          have HR2 := hid hR2
          have HB2 := hid (HBV.out.trans hB2)
          have H4u := hid ((setAll_other hn5 [.slice at' x.length ct] 7 w2).trans h42)
          have HUb := hid (setAll_below (show w.heap.size ≤ w1.heap.size by omega) [.slice at' x.length ct] 7 w2 w2 (Below.refl w.heap.size w2))
          have HKP := hid (setAll_keeps (Q := newB V1.heap.size) (b := w.heap.size) (fun k hk => by have : V1.heap.size ≤ k := hk; omega) [.int .i64 5, .int .i64 0, .int .i64 0, .slice none 0 0, .slice none 0 0, .bool false, .int .i64 0, .slice at' x.length ct] 0 _ w2 (setAll_keeps (b := w1.heap.size) (fun k hk => by have : V1.heap.size ≤ k := hk; omega) [.slice at' x.length ct] 7 w2 w2 (Keeps.refl _ _)))
          clear hR2 hB2 h42 h52
          go_wp2
          have b1 := setAll_heap [.int .i64 5, .int .i64 0, .int .i64 0, .slice none 0 0, .slice none 0 0, .bool false, .int .i64 0, .slice at' x.length ct] 0 _ _ H4u.out
          rw [put8] at b1
          have b4 := setAll_below (Nat.le_refl w.heap.size) [.int .i64 5, .int .i64 0, .int .i64 0, .slice none 0 0, .slice none 0 0, .bool false, .int .i64 0, .slice at' x.length ct] 0 _ _ HUb.out
          have kp := HKP.out
          simp only [setAll] at b1 b4 kp
          have m0 := cell_of b1 0
          have m1 := cell_of b1 1
          have m2 := cell_of b1 2
          have m3 := cell_of b1 3
          have m4 := cell_of b1 4
          have m5 := cell_of b1 5
          have m6 := cell_of b1 6
          have m7 := cell_of b1 7
          simp at m0 m1 m2 m3 m4 m5 m6 m7
          refine bodyPost_ret (v := .agg #[.int .i64 5, .int .i64 0, .int .i64 0, .slice none 0 0, .slice none 0 0, .bool false, .int .i64 0, .slice at' x.length ct]) (by simp only [results, Tryz.results195]; simp [go_sem, m0, m1, m2, m3, m4, m5, m6, m7]) rfl ?_
          rw [HE.out]
          exact ⟨_, rfl, ⟨[.int .i64 5, .int .i64 0, .int .i64 0, .slice none 0 0, .slice none 0 0, .bool false, .int .i64 0, .slice at' x.length ct], rfl, ⟨_, _, _, rfl, rowM_nil _ _ _ _ _ _, rowM_nil _ _ _ _ _ _, RowM.imp HT.out (fun k hk => by have : V1.heap.size ≤ k := hk; show w.heap.size ≤ k; omega) kp (fun _ _ h => TstM.imp (fun k hk => by have : V1.heap.size ≤ k := hk; show w.heap.size ≤ k; omega) kp _ _ _ h)⟩⟩, HR2.out.under b4 hbl, HB2.out.low b4⟩
    by_cases k678 : k = 6 ∨ k = 7 ∨ k = 8
    · rcases k678 with e6 | e7 | e8
      · subst e6
        have HQ := hid (show testP (n + 1) d r = thenR (tagsF false q 0 0) fun mp q => thenR (listR q) fun a q => thenR (listR q) fun b q => .ok ({ noneT with kind := (6 : Nat), mat := mp.1, part := mp.2, names := a, keys := b }, q) by
          rw [testP, hk]
          rfl)
        clear hk
        obtain ⟨V1, hV1⟩ : ∃ V1, V1 = w1.alloc (.cells #[.int .i64 6, .int .i64 0, .int .i64 0, .slice none 0 0, .slice none 0 0, .bool false, .int .i64 0, .slice none 0 0] 203) := ⟨_, rfl⟩
        have halv : Below w1.heap.size w1 V1 := by rw [hV1]; exact (Below.refl _ _).alloc (Nat.le_refl _) _
        have H5V := hid (show V1.heap[w1.heap.size]? = some (.cells #[.int .i64 6, .int .i64 0, .int .i64 0, .slice none 0 0, .slice none 0 0, .bool false, .int .i64 0, .slice none 0 0] 203) by rw [hV1]; exact heap_alloc_new w1 _)
        have hltv : w1.heap.size < V1.heap.size := by rw [hV1]; simp
        have HVE := hid hV1
        have H4V := hid ((halv.block _ hlt1).trans H41.out)
        have HRV := hid (HR1.out.next halv)
        have HBV := hid (HB1.out.trans (But.of halv))
        have HWV := hid (HW1.out.next halv)
        clear hV1 halv a0 a1 a2 a3 a4 a5 a6 a7 z0 z1 z2 z3 z4 z5 z6 z7
        go_wp2_with fail
        rw [← HVE.out]
        refine (rtags_any b A C L q false V1 HRV.out HWV.out hG).mono ?_
        cases hx : tagsF false q 0 0 with
        | error m =>
          have HE := hid (show testP (n + 1) d r = .error m by rw [HQ.out, hx]; rfl)
          clear hx
          rintro e w2 ⟨rfl, hB2⟩
          have HB2 := hid (HBV.out.trans hB2)
          clear hB2
          go_wp2
          rw [HE.out]
          exact ⟨rfl, rfl, HB2.out⟩
        | ok y =>
          obtain ⟨x, q2⟩ := y
          have HQ2 := hid (show testP (n + 1) d r = thenR (listR q2) fun a q => thenR (listR q) fun b q => .ok ({ noneT with kind := (6 : Nat), mat := x.1, part := x.2, names := a, keys := b }, q) by rw [HQ.out, hx]; rfl)
          clear hx HQ
          rintro e w2 ⟨v, rfl, rfl, hR2, hB2⟩
          have h42 := (hB2.block _ (Nat.lt_trans hlt1 hltv) hnb).trans H4V.out
          have h52 := (hB2.block _ hltv hn5b).trans H5V.out
          have hs2 := hB2.size
          have g0 : w2.cell? ⟨w1.heap.size, 0, none⟩ = some (.int .i64 6) := by simp [World.cell?, h52]
          have g1 : w2.cell? ⟨w1.heap.size, 1, none⟩ = some (.int .i64 0) := by simp [World.cell?, h52]
          have g2 : w2.cell? ⟨w1.heap.size, 2, none⟩ = some (.int .i64 0) := by simp [World.cell?, h52]
          have g3 : w2.cell? ⟨w1.heap.size, 3, none⟩ = some (.slice none 0 0) := by simp [World.cell?, h52]
          have g4 : w2.cell? ⟨w1.heap.size, 4, none⟩ = some (.slice none 0 0) := by simp [World.cell?, h52]
          have g5 : w2.cell? ⟨w1.heap.size, 5, none⟩ = some (.bool false) := by simp [World.cell?, h52]
          have g6 : w2.cell? ⟨w1.heap.size, 6, none⟩ = some (.int .i64 0) := by simp [World.cell?, h52]
          have g7 : w2.cell? ⟨w1.heap.size, 7, none⟩ = some (.slice none 0 0) := by simp [World.cell?, h52]
          have y0 : w2.frozen? ⟨w1.heap.size, 0, none⟩ = false := by simp [World.frozen?, h52]
          have y1 : w2.frozen? ⟨w1.heap.size, 1, none⟩ = false := by simp [World.frozen?, h52]
          have y2 : w2.frozen? ⟨w1.heap.size, 2, none⟩ = false := by simp [World.frozen?, h52]
          have y3 : w2.frozen? ⟨w1.heap.size, 3, none⟩ = false := by simp [World.frozen?, h52]
          have y4 : w2.frozen? ⟨w1.heap.size, 4, none⟩ = false := by simp [World.frozen?, h52]
          have y5 : w2.frozen? ⟨w1.heap.size, 5, none⟩ = false := by simp [World.frozen?, h52]
          have y6 : w2.frozen? ⟨w1.heap.size, 6, none⟩ = false := by simp [World.frozen?, h52]
          have y7 : w2.frozen? ⟨w1.heap.size, 7, none⟩ = false := by simp [World.frozen?, h52]
          obtain ⟨U2, hU2⟩ : ∃ U2, U2 = setAll w2 w1.heap.size 1 [.int .i64 ((x.1 : Nat) : Int), .int .i64 ((x.2 : Nat) : Int)] := ⟨_, rfl⟩
          have hbu2 : Below w1.heap.size w2 U2 := by rw [hU2]; exact setAll_below (Nat.le_refl _) _ _ _ _ (Below.refl _ _)
          have hz2 : U2.heap.size = w2.heap.size := by rw [hU2]; exact setAll_size _ _ _
          have h5u2 : U2.heap[w1.heap.size]? = some (.cells #[.int .i64 6, .int .i64 ((x.1 : Nat) : Int), .int .i64 ((x.2 : Nat) : Int), .slice none 0 0, .slice none 0 0, .bool false, .int .i64 0, .slice none 0 0] 203) := by
            rw [hU2, setAll_heap _ _ _ _ h52]
            simp [putAll]
          have h4u2 : U2.heap[w.heap.size]? = some (.cells zero8 203) := (hbu2.block _ hlt1).trans h42
          have HRU2 := hid (hR2.under hbu2 hbl1)
          have HBU2 := hid ((HBV.out.trans hB2).low (hbu2.mono (by omega)))
          have HU2E := hid (show _ = _ from hU2)
          simp only [setAll] at HU2E
          have H5U2 := hid h5u2
          have H4U2 := hid h4u2
          clear hR2 hB2 h42 h52 hU2 hbu2 h5u2 h4u2
          go_wp2_with fail
          rw [← HU2E.out]
          refine (rlist_any b A C L q2 U2 HRU2.out).mono ?_
          cases hx : listR q2 with
          | error m =>
            have HE := hid (show testP (n + 1) d r = .error m by rw [HQ2.out, hx]; rfl)
            clear hx
            rintro e w3 ⟨rfl, hB3⟩
            have HB3 := hid (HBU2.out.trans hB3)
            clear hB3
            go_wp2
            rw [HE.out]
            exact ⟨rfl, rfl, HB3.out⟩
          | ok y =>
            obtain ⟨a, q3⟩ := y
            have HQ3 := hid (show testP (n + 1) d r = thenR (listR q3) fun b q => .ok ({ noneT with kind := (6 : Nat), mat := x.1, part := x.2, names := a, keys := b }, q) by rw [HQ2.out, hx]; rfl)
            clear hx HQ2
            rintro e w3 ⟨v, rfl, hT3, hR3, hB3⟩
            obtain ⟨an, cn, rfl⟩ := hT3.slice
            have h43 := (hB3.block _ (by omega) hnb).trans H4U2.out
            have h53 := (hB3.block _ (by omega) hn5b).trans H5U2.out
            have hs3 := hB3.size
            have p0 : w3.cell? ⟨w1.heap.size, 0, none⟩ = some (.int .i64 6) := by simp [World.cell?, h53]
            have p1 : w3.cell? ⟨w1.heap.size, 1, none⟩ = some (.int .i64 ((x.1 : Nat) : Int)) := by simp [World.cell?, h53]
            have p2 : w3.cell? ⟨w1.heap.size, 2, none⟩ = some (.int .i64 ((x.2 : Nat) : Int)) := by simp [World.cell?, h53]
            have p3 : w3.cell? ⟨w1.heap.size, 3, none⟩ = some (.slice none 0 0) := by simp [World.cell?, h53]
            have p4 : w3.cell? ⟨w1.heap.size, 4, none⟩ = some (.slice none 0 0) := by simp [World.cell?, h53]
            have p5 : w3.cell? ⟨w1.heap.size, 5, none⟩ = some (.bool false) := by simp [World.cell?, h53]
            have p6 : w3.cell? ⟨w1.heap.size, 6, none⟩ = some (.int .i64 0) := by simp [World.cell?, h53]
            have p7 : w3.cell? ⟨w1.heap.size, 7, none⟩ = some (.slice none 0 0) := by simp [World.cell?, h53]
            have t0 : w3.frozen? ⟨w1.heap.size, 0, none⟩ = false := by simp [World.frozen?, h53]
            have t1 : w3.frozen? ⟨w1.heap.size, 1, none⟩ = false := by simp [World.frozen?, h53]
            have t2 : w3.frozen? ⟨w1.heap.size, 2, none⟩ = false := by simp [World.frozen?, h53]
            have t3 : w3.frozen? ⟨w1.heap.size, 3, none⟩ = false := by simp [World.frozen?, h53]
            have t4 : w3.frozen? ⟨w1.heap.size, 4, none⟩ = false := by simp [World.frozen?, h53]
            have t5 : w3.frozen? ⟨w1.heap.size, 5, none⟩ = false := by simp [World.frozen?, h53]
            have t6 : w3.frozen? ⟨w1.heap.size, 6, none⟩ = false := by simp [World.frozen?, h53]
            have t7 : w3.frozen? ⟨w1.heap.size, 7, none⟩ = false := by simp [World.frozen?, h53]
            obtain ⟨U3, hU3⟩ : ∃ U3, U3 = setAll w3 w1.heap.size 3 [.slice an a.length cn] := ⟨_, rfl⟩
            have hbu3 : Below w1.heap.size w3 U3 := by rw [hU3]; exact setAll_below (Nat.le_refl _) _ _ _ _ (Below.refl _ _)
            have hz3 : U3.heap.size = w3.heap.size := by rw [hU3]; exact setAll_size _ _ _
            have h5u3 : U3.heap[w1.heap.size]? = some (.cells #[.int .i64 6, .int .i64 ((x.1 : Nat) : Int), .int .i64 ((x.2 : Nat) : Int), .slice an a.length cn, .slice none 0 0, .bool false, .int .i64 0, .slice none 0 0] 203) := by
              rw [hU3, setAll_heap _ _ _ _ h53]
              simp [putAll]
            have h4u3 : U3.heap[w.heap.size]? = some (.cells zero8 203) := (hbu3.block _ hlt1).trans h43
            have HT3 := hid (show TxtsM (newB U2.heap.size) U3 (.slice an a.length cn) a by
              rw [hU3]; exact TxtsM.imp hT3 (fun _ h => h) (setAll_keeps (fun k hk => by have : U2.heap.size ≤ k := hk; omega) _ _ _ _ (Keeps.refl _ _)))
            have HRU3 := hid (hR3.under hbu3 hbl1)
            have HBU3 := hid ((HBU2.out.trans hB3).low (hbu3.mono (by omega)))
            have HU3E := hid (show _ = _ from hU3)
            simp only [setAll] at HU3E
            have H5U3 := hid h5u3
            have H4U3 := hid h4u3
            clear hR3 hB3 h43 h53 hU3 hbu3 h5u3 h4u3 hT3 g0 g1 g2 g3 g4 g5 g6 g7 y0 y1 y2 y3 y4 y5 y6 y7
            go_wp2_with fail
            rw [← HU3E.out]
            refine (rlist_any b A C L q3 U3 HRU3.out).mono ?_
            cases hx : listR q3 with
            | error m =>
              have HE := hid (show testP (n + 1) d r = .error m by rw [HQ3.out, hx]; rfl)
              clear hx
              rintro e w4 ⟨rfl, hB4⟩
              have HB4 := hid (HBU3.out.trans hB4)
              clear hB4
              go_wp2
              rw [HE.out]
              exact ⟨rfl, rfl, HB4.out⟩
            | ok y =>
              obtain ⟨c, q4⟩ := y
              have HE := hid (show testP (n + 1) d r = .ok ({ noneT with kind := (6 : Nat), mat := x.1, part := x.2, names := a, keys := c }, q4) by rw [HQ3.out, hx]; rfl)
              clear hx HQ3
              rintro e w4 ⟨v, rfl, hT4, hR4, hB4⟩
              obtain ⟨ak, ck, rfl⟩ := hT4.slice
              have h44 := (hB4.block _ (by omega) hnb).trans H4U3.out
              have h54 := (hB4.block _ (by omega) hn5b).trans H5U3.out
              have hs4 := hB4.size
              have a0 : w4.cell? ⟨w.heap.size, 0, none⟩ = some (.int .i64 0) := by simp [World.cell?, h44, zero8]
              have a1 : w4.cell? ⟨w.heap.size, 1, none⟩ = some (.int .i64 0) := by simp [World.cell?, h44, zero8]
              have a2 : w4.cell? ⟨w.heap.size, 2, none⟩ = some (.int .i64 0) := by simp [World.cell?, h44, zero8]
              have a3 : w4.cell? ⟨w.heap.size, 3, none⟩ = some (.slice none 0 0) := by simp [World.cell?, h44, zero8]
              have a4 : w4.cell? ⟨w.heap.size, 4, none⟩ = some (.slice none 0 0) := by simp [World.cell?, h44, zero8]
              have a5 : w4.cell? ⟨w.heap.size, 5, none⟩ = some (.bool false) := by simp [World.cell?, h44, zero8]
              have a6 : w4.cell? ⟨w.heap.size, 6, none⟩ = some (.int .i64 0) := by simp [World.cell?, h44, zero8]
              have a7 : w4.cell? ⟨w.heap.size, 7, none⟩ = some (.slice none 0 0) := by simp [World.cell?, h44, zero8]
              have z0 : w4.frozen? ⟨w.heap.size, 0, none⟩ = false := by simp [World.frozen?, h44]
              have z1 : w4.frozen? ⟨w.heap.size, 1, none⟩ = false := by simp [World.frozen?, h44]
              have z2 : w4.frozen? ⟨w.heap.size, 2, none⟩ = false := by simp [World.frozen?, h44]
              have z3 : w4.frozen? ⟨w.heap.size, 3, none⟩ = false := by simp [World.frozen?, h44]
              have z4 : w4.frozen? ⟨w.heap.size, 4, none⟩ = false := by simp [World.frozen?, h44]
              have z5 : w4.frozen? ⟨w.heap.size, 5, none⟩ = false := by simp [World.frozen?, h44]
              have z6 : w4.frozen? ⟨w.heap.size, 6, none⟩ = false := by simp [World.frozen?, h44]
              have z7 : w4.frozen? ⟨w.heap.size, 7, none⟩ = false := by simp [World.frozen?, h44]
              have g0 : w4.cell? ⟨w1.heap.size, 0, none⟩ = some (.int .i64 6) := by simp [World.cell?, h54]
              have g1 : w4.cell? ⟨w1.heap.size, 1, none⟩ = some (.int .i64 ((x.1 : Nat) : Int)) := by simp [World.cell?, h54]
              have g2 : w4.cell? ⟨w1.heap.size, 2, none⟩ = some (.int .i64 ((x.2 : Nat) : Int)) := by simp [World.cell?, h54]
              have g3 : w4.cell? ⟨w1.heap.size, 3, none⟩ = some (.slice an a.length cn) := by simp [World.cell?, h54]
              have g4 : w4.cell? ⟨w1.heap.size, 4, none⟩ = some (.slice none 0 0) := by simp [World.cell?, h54]
              have g5 : w4.cell? ⟨w1.heap.size, 5, none⟩ = some (.bool false) := by simp [World.cell?, h54]
              have g6 : w4.cell? ⟨w1.heap.size, 6, none⟩ = some (.int .i64 0) := by simp [World.cell?, h54]
              have g7 : w4.cell? ⟨w1.heap.size, 7, none⟩ = some (.slice none 0 0) := by simp [World.cell?, h54]
              have y0 : w4.frozen? ⟨w1.heap.size, 0, none⟩ = false := by simp [World.frozen?, h54]
              have y1 : w4.frozen? ⟨w1.heap.size, 1, none⟩ = false := by simp [World.frozen?, h54]
              have y2 : w4.frozen? ⟨w1.heap.size, 2, none⟩ = false := by simp [World.frozen?, h54]
              have y3 : w4.frozen? ⟨w1.heap.size, 3, none⟩ = false := by simp [World.frozen?, h54]
              have y4 : w4.frozen? ⟨w1.heap.size, 4, none⟩ = false := by simp [World.frozen?, h54]
              have y5 : w4.frozen? ⟨w1.heap.size, 5, none⟩ = false := by simp [World.frozen?, h54]
              have y6 : w4.frozen? ⟨w1.heap.size, 6, none⟩ = false := by simp [World.frozen?, h54]
              have y7 : w4.frozen? ⟨w1.heap.size, 7, none⟩ = false := by simp [World.frozen?, h54]
              have HR4 := hid hR4
              have HB4 := hid (HBU3.out.trans hB4)
              have HT4 := hid hT4
              have HT5 := hid (show TxtsM (newB U2.heap.size) w4 (.slice an a.length cn) a from TxtsM.imp HT3.out (fun _ h => h) (Keeps.of_but hB4 fun k hk => by have : U2.heap.size ≤ k := hk; omega))
              have H4u := hid ((setAll_other hn5 [.slice ak c.length ck] 4 w4).trans h44)
              have HUb := hid (setAll_below (show w.heap.size ≤ w1.heap.size by omega) [.slice ak c.length ck] 4 w4 w4 (Below.refl w.heap.size w4))
              have HKP := hid (setAll_keeps (Q := newB U2.heap.size) (b := w.heap.size) (fun k hk => by have : U2.heap.size ≤ k := hk; omega) [.int .i64 6, .int .i64 ((x.1 : Nat) : Int), .int .i64 ((x.2 : Nat) : Int), .slice an a.length cn, .slice ak c.length ck, .bool false, .int .i64 0, .slice none 0 0] 0 _ w4 (setAll_keeps (b := w1.heap.size) (fun k hk => by have : U2.heap.size ≤ k := hk; omega) [.slice ak c.length ck] 4 w4 w4 (Keeps.refl _ _)))
              clear hR4 hB4 h44 h54 hT4 p0 p1 p2 p3 p4 p5 p6 p7 t0 t1 t2 t3 t4 t5 t6 t7
              go_wp2
              have b1 := setAll_heap [.int .i64 6, .int .i64 ((x.1 : Nat) : Int), .int .i64 ((x.2 : Nat) : Int), .slice an a.length cn, .slice ak c.length ck, .bool false, .int .i64 0, .slice none 0 0] 0 _ _ H4u.out
              rw [put8] at b1
              have b4 := setAll_below (Nat.le_refl w.heap.size) [.int .i64 6, .int .i64 ((x.1 : Nat) : Int), .int .i64 ((x.2 : Nat) : Int), .slice an a.length cn, .slice ak c.length ck, .bool false, .int .i64 0, .slice none 0 0] 0 _ _ HUb.out
              have kp := HKP.out
              simp only [setAll] at b1 b4 kp
              have m0 := cell_of b1 0
              have m1 := cell_of b1 1
              have m2 := cell_of b1 2
              have m3 := cell_of b1 3
              have m4 := cell_of b1 4
              have m5 := cell_of b1 5
              have m6 := cell_of b1 6
              have m7 := cell_of b1 7
              simp at m0 m1 m2 m3 m4 m5 m6 m7
              refine bodyPost_ret (v := .agg #[.int .i64 6, .int .i64 ((x.1 : Nat) : Int), .int .i64 ((x.2 : Nat) : Int), .slice an a.length cn, .slice ak c.length ck, .bool false, .int .i64 0, .slice none 0 0]) (by simp only [results, Tryz.results195]; simp [go_sem, m0, m1, m2, m3, m4, m5, m6, m7]) rfl ?_
              rw [HE.out]
              exact ⟨_, rfl, ⟨[.int .i64 6, .int .i64 ((x.1 : Nat) : Int), .int .i64 ((x.2 : Nat) : Int), .slice an a.length cn, .slice ak c.length ck, .bool false, .int .i64 0, .slice none 0 0], rfl, ⟨_, _, _, rfl, TxtsM.imp HT5.out (fun k hk => by have : U2.heap.size ≤ k := hk; show w.heap.size ≤ k; omega) kp, TxtsM.imp (TxtsM.imp HT4.out (fun k hk => by have : U3.heap.size ≤ k := hk; show U2.heap.size ≤ k; omega) (Keeps.refl _ _)) (fun k hk => by have : U2.heap.size ≤ k := hk; show w.heap.size ≤ k; omega) kp, rowM_nil _ _ _ _ _ _⟩⟩, HR4.out.under b4 hbl, HB4.out.low b4⟩
      · subst e7
        have HQ := hid (show testP (n + 1) d r = thenR (tagsF true q 0 0) fun mp q => thenR (listR q) fun a q => thenR (listR q) fun b q => .ok ({ noneT with kind := (7 : Nat), mat := mp.1, part := mp.2, names := a, keys := b }, q) by
          rw [testP, hk]
          rfl)
        clear hk
        obtain ⟨V1, hV1⟩ : ∃ V1, V1 = w1.alloc (.cells #[.int .i64 7, .int .i64 0, .int .i64 0, .slice none 0 0, .slice none 0 0, .bool false, .int .i64 0, .slice none 0 0] 203) := ⟨_, rfl⟩
        have halv : Below w1.heap.size w1 V1 := by rw [hV1]; exact (Below.refl _ _).alloc (Nat.le_refl _) _
        have H5V := hid (show V1.heap[w1.heap.size]? = some (.cells #[.int .i64 7, .int .i64 0, .int .i64 0, .slice none 0 0, .slice none 0 0, .bool false, .int .i64 0, .slice none 0 0] 203) by rw [hV1]; exact heap_alloc_new w1 _)
        have hltv : w1.heap.size < V1.heap.size := by rw [hV1]; simp
        have HVE := hid hV1
        have H4V := hid ((halv.block _ hlt1).trans H41.out)
        have HRV := hid (HR1.out.next halv)
        have HBV := hid (HB1.out.trans (But.of halv))
        have HWV := hid (HW1.out.next halv)
        clear hV1 halv a0 a1 a2 a3 a4 a5 a6 a7 z0 z1 z2 z3 z4 z5 z6 z7
        go_wp2_with fail
        rw [← HVE.out]
        refine (rtags_any b A C L q true V1 HRV.out HWV.out hG).mono ?_
        cases hx : tagsF true q 0 0 with
        | error m =>
          have HE := hid (show testP (n + 1) d r = .error m by rw [HQ.out, hx]; rfl)
          clear hx
          rintro e w2 ⟨rfl, hB2⟩
          have HB2 := hid (HBV.out.trans hB2)
          clear hB2
          go_wp2
          rw [HE.out]
          exact ⟨rfl, rfl, HB2.out⟩
        | ok y =>
          obtain ⟨x, q2⟩ := y
          have HQ2 := hid (show testP (n + 1) d r = thenR (listR q2) fun a q => thenR (listR q) fun b q => .ok ({ noneT with kind := (7 : Nat), mat := x.1, part := x.2, names := a, keys := b }, q) by rw [HQ.out, hx]; rfl)
          clear hx HQ
          rintro e w2 ⟨v, rfl, rfl, hR2, hB2⟩
          have h42 := (hB2.block _ (Nat.lt_trans hlt1 hltv) hnb).trans H4V.out
          have h52 := (hB2.block _ hltv hn5b).trans H5V.out
          have hs2 := hB2.size
          have g0 : w2.cell? ⟨w1.heap.size, 0, none⟩ = some (.int .i64 7) := by simp [World.cell?, h52]
          have g1 : w2.cell? ⟨w1.heap.size, 1, none⟩ = some (.int .i64 0) := by simp [World.cell?, h52]
          have g2 : w2.cell? ⟨w1.heap.size, 2, none⟩ = some (.int .i64 0) := by simp [World.cell?, h52]
          have g3 : w2.cell? ⟨w1.heap.size, 3, none⟩ = some (.slice none 0 0) := by simp [World.cell?, h52]
          have g4 : w2.cell? ⟨w1.heap.size, 4, none⟩ = some (.slice none 0 0) := by simp [World.cell?, h52]
          have g5 : w2.cell? ⟨w1.heap.size, 5, none⟩ = some (.bool false) := by simp [World.cell?, h52]
          have g6 : w2.cell? ⟨w1.heap.size, 6, none⟩ = some (.int .i64 0) := by simp [World.cell?, h52]
          have g7 : w2.cell? ⟨w1.heap.size, 7, none⟩ = some (.slice none 0 0) := by simp [World.cell?, h52]
          have y0 : w2.frozen? ⟨w1.heap.size, 0, none⟩ = false := by simp [World.frozen?, h52]
          have y1 : w2.frozen? ⟨w1.heap.size, 1, none⟩ = false := by simp [World.frozen?, h52]
          have y2 : w2.frozen? ⟨w1.heap.size, 2, none⟩ = false := by simp [World.frozen?, h52]
          have y3 : w2.frozen? ⟨w1.heap.size, 3, none⟩ = false := by simp [World.frozen?, h52]
          have y4 : w2.frozen? ⟨w1.heap.size, 4, none⟩ = false := by simp [World.frozen?, h52]
          have y5 : w2.frozen? ⟨w1.heap.size, 5, none⟩ = false := by simp [World.frozen?, h52]
          have y6 : w2.frozen? ⟨w1.heap.size, 6, none⟩ = false := by simp [World.frozen?, h52]
          have y7 : w2.frozen? ⟨w1.heap.size, 7, none⟩ = false := by simp [World.frozen?, h52]
          obtain ⟨U2, hU2⟩ : ∃ U2, U2 = setAll w2 w1.heap.size 1 [.int .i64 ((x.1 : Nat) : Int), .int .i64 ((x.2 : Nat) : Int)] := ⟨_, rfl⟩
          have hbu2 : Below w1.heap.size w2 U2 := by rw [hU2]; exact setAll_below (Nat.le_refl _) _ _ _ _ (Below.refl _ _)
          have hz2 : U2.heap.size = w2.heap.size := by rw [hU2]; exact setAll_size _ _ _
          have h5u2 : U2.heap[w1.heap.size]? = some (.cells #[.int .i64 7, .int .i64 ((x.1 : Nat) : Int), .int .i64 ((x.2 : Nat) : Int), .slice none 0 0, .slice none 0 0, .bool false, .int .i64 0, .slice none 0 0] 203) := by
            rw [hU2, setAll_heap _ _ _ _ h52]
            simp [putAll]
          have h4u2 : U2.heap[w.heap.size]? = some (.cells zero8 203) := (hbu2.block _ hlt1).trans h42
          have HRU2 := hid (hR2.under hbu2 hbl1)
          have HBU2 := hid ((HBV.out.trans hB2).low (hbu2.mono (by omega)))
          have HU2E := hid (show _ = _ from hU2)
          simp only [setAll] at HU2E
          have H5U2 := hid h5u2
          have H4U2 := hid h4u2
          clear hR2 hB2 h42 h52 hU2 hbu2 h5u2 h4u2
          go_wp2_with fail
          rw [← HU2E.out]
          refine (rlist_any b A C L q2 U2 HRU2.out).mono ?_
          cases hx : listR q2 with
          | error m =>
            have HE := hid (show testP (n + 1) d r = .error m by rw [HQ2.out, hx]; rfl)
            clear hx
            rintro e w3 ⟨rfl, hB3⟩
            have HB3 := hid (HBU2.out.trans hB3)
            clear hB3
            go_wp2
            rw [HE.out]
            exact ⟨rfl, rfl, HB3.out⟩
          | ok y =>
            obtain ⟨a, q3⟩ := y
            have HQ3 := hid (show testP (n + 1) d r = thenR (listR q3) fun b q => .ok ({ noneT with kind := (7 : Nat), mat := x.1, part := x.2, names := a, keys := b }, q) by rw [HQ2.out, hx]; rfl)
            clear hx HQ2
            rintro e w3 ⟨v, rfl, hT3, hR3, hB3⟩
            obtain ⟨an, cn, rfl⟩ := hT3.slice
            have h43 := (hB3.block _ (by omega) hnb).trans H4U2.out
            have h53 := (hB3.block _ (by omega) hn5b).trans H5U2.out
            have hs3 := hB3.size
            have p0 : w3.cell? ⟨w1.heap.size, 0, none⟩ = some (.int .i64 7) := by simp [World.cell?, h53]
            have p1 : w3.cell? ⟨w1.heap.size, 1, none⟩ = some (.int .i64 ((x.1 : Nat) : Int)) := by simp [World.cell?, h53]
            have p2 : w3.cell? ⟨w1.heap.size, 2, none⟩ = some (.int .i64 ((x.2 : Nat) : Int)) := by simp [World.cell?, h53]
            have p3 : w3.cell? ⟨w1.heap.size, 3, none⟩ = some (.slice none 0 0) := by simp [World.cell?, h53]
            have p4 : w3.cell? ⟨w1.heap.size, 4, none⟩ = some (.slice none 0 0) := by simp [World.cell?, h53]
            have p5 : w3.cell? ⟨w1.heap.size, 5, none⟩ = some (.bool false) := by simp [World.cell?, h53]
            have p6 : w3.cell? ⟨w1.heap.size, 6, none⟩ = some (.int .i64 0) := by simp [World.cell?, h53]
            have p7 : w3.cell? ⟨w1.heap.size, 7, none⟩ = some (.slice none 0 0) := by simp [World.cell?, h53]
            have t0 : w3.frozen? ⟨w1.heap.size, 0, none⟩ = false := by simp [World.frozen?, h53]
            have t1 : w3.frozen? ⟨w1.heap.size, 1, none⟩ = false := by simp [World.frozen?, h53]
            have t2 : w3.frozen? ⟨w1.heap.size, 2, none⟩ = false := by simp [World.frozen?, h53]
            have t3 : w3.frozen? ⟨w1.heap.size, 3, none⟩ = false := by simp [World.frozen?, h53]
            have t4 : w3.frozen? ⟨w1.heap.size, 4, none⟩ = false := by simp [World.frozen?, h53]
            have t5 : w3.frozen? ⟨w1.heap.size, 5, none⟩ = false := by simp [World.frozen?, h53]
            have t6 : w3.frozen? ⟨w1.heap.size, 6, none⟩ = false := by simp [World.frozen?, h53]
            have t7 : w3.frozen? ⟨w1.heap.size, 7, none⟩ = false := by simp [World.frozen?, h53]
            obtain ⟨U3, hU3⟩ : ∃ U3, U3 = setAll w3 w1.heap.size 3 [.slice an a.length cn] := ⟨_, rfl⟩
            have hbu3 : Below w1.heap.size w3 U3 := by rw [hU3]; exact setAll_below (Nat.le_refl _) _ _ _ _ (Below.refl _ _)
            have hz3 : U3.heap.size = w3.heap.size := by rw [hU3]; exact setAll_size _ _ _
            have h5u3 : U3.heap[w1.heap.size]? = some (.cells #[.int .i64 7, .int .i64 ((x.1 : Nat) : Int), .int .i64 ((x.2 : Nat) : Int), .slice an a.length cn, .slice none 0 0, .bool false, .int .i64 0, .slice none 0 0] 203) := by
              rw [hU3, setAll_heap _ _ _ _ h53]
              simp [putAll]
            have h4u3 : U3.heap[w.heap.size]? = some (.cells zero8 203) := (hbu3.block _ hlt1).trans h43
            have HT3 := hid (show TxtsM (newB U2.heap.size) U3 (.slice an a.length cn) a by
              rw [hU3]; exact TxtsM.imp hT3 (fun _ h => h) (setAll_keeps (fun k hk => by have : U2.heap.size ≤ k := hk; omega) _ _ _ _ (Keeps.refl _ _)))
            have HRU3 := hid (hR3.under hbu3 hbl1)
            have HBU3 := hid ((HBU2.out.trans hB3).low (hbu3.mono (by omega)))
            have HU3E := hid (show _ = _ from hU3)
            simp only [setAll] at HU3E
            have H5U3 := hid h5u3
            have H4U3 := hid h4u3
            clear hR3 hB3 h43 h53 hU3 hbu3 h5u3 h4u3 hT3 g0 g1 g2 g3 g4 g5 g6 g7 y0 y1 y2 y3 y4 y5 y6 y7
            go_wp2_with fail
            rw [← HU3E.out]
            refine (rlist_any b A C L q3 U3 HRU3.out).mono ?_
            cases hx : listR q3 with
            | error m =>
              have HE := hid (show testP (n + 1) d r = .error m by rw [HQ3.out, hx]; rfl)
              clear hx
              rintro e w4 ⟨rfl, hB4⟩
              have HB4 := hid (HBU3.out.trans hB4)
              clear hB4
              go_wp2
              rw [HE.out]
              exact ⟨rfl, rfl, HB4.out⟩
            | ok y =>
              obtain ⟨c, q4⟩ := y
              have HE := hid (show testP (n + 1) d r = .ok ({ noneT with kind := (7 : Nat), mat := x.1, part := x.2, names := a, keys := c }, q4) by rw [HQ3.out, hx]; rfl)
              clear hx HQ3
              rintro e w4 ⟨v, rfl, hT4, hR4, hB4⟩
              obtain ⟨ak, ck, rfl⟩ := hT4.slice
              have h44 := (hB4.block _ (by omega) hnb).trans H4U3.out
              have h54 := (hB4.block _ (by omega) hn5b).trans H5U3.out
              have hs4 := hB4.size
              have a0 : w4.cell? ⟨w.heap.size, 0, none⟩ = some (.int .i64 0) := by simp [World.cell?, h44, zero8]
              have a1 : w4.cell? ⟨w.heap.size, 1, none⟩ = some (.int .i64 0) := by simp [World.cell?, h44, zero8]
              have a2 : w4.cell? ⟨w.heap.size, 2, none⟩ = some (.int .i64 0) := by simp [World.cell?, h44, zero8]
              have a3 : w4.cell? ⟨w.heap.size, 3, none⟩ = some (.slice none 0 0) := by simp [World.cell?, h44, zero8]
              have a4 : w4.cell? ⟨w.heap.size, 4, none⟩ = some (.slice none 0 0) := by simp [World.cell?, h44, zero8]
              have a5 : w4.cell? ⟨w.heap.size, 5, none⟩ = some (.bool false) := by simp [World.cell?, h44, zero8]
              have a6 : w4.cell? ⟨w.heap.size, 6, none⟩ = some (.int .i64 0) := by simp [World.cell?, h44, zero8]
              have a7 : w4.cell? ⟨w.heap.size, 7, none⟩ = some (.slice none 0 0) := by simp [World.cell?, h44, zero8]
              have z0 : w4.frozen? ⟨w.heap.size, 0, none⟩ = false := by simp [World.frozen?, h44]
              have z1 : w4.frozen? ⟨w.heap.size, 1, none⟩ = false := by simp [World.frozen?, h44]
              have z2 : w4.frozen? ⟨w.heap.size, 2, none⟩ = false := by simp [World.frozen?, h44]
              have z3 : w4.frozen? ⟨w.heap.size, 3, none⟩ = false := by simp [World.frozen?, h44]
              have z4 : w4.frozen? ⟨w.heap.size, 4, none⟩ = false := by simp [World.frozen?, h44]
              have z5 : w4.frozen? ⟨w.heap.size, 5, none⟩ = false := by simp [World.frozen?, h44]
              have z6 : w4.frozen? ⟨w.heap.size, 6, none⟩ = false := by simp [World.frozen?, h44]
              have z7 : w4.frozen? ⟨w.heap.size, 7, none⟩ = false := by simp [World.frozen?, h44]
              have g0 : w4.cell? ⟨w1.heap.size, 0, none⟩ = some (.int .i64 7) := by simp [World.cell?, h54]
              have g1 : w4.cell? ⟨w1.heap.size, 1, none⟩ = some (.int .i64 ((x.1 : Nat) : Int)) := by simp [World.cell?, h54]
              have g2 : w4.cell? ⟨w1.heap.size, 2, none⟩ = some (.int .i64 ((x.2 : Nat) : Int)) := by simp [World.cell?, h54]
              have g3 : w4.cell? ⟨w1.heap.size, 3, none⟩ = some (.slice an a.length cn) := by simp [World.cell?, h54]
              have g4 : w4.cell? ⟨w1.heap.size, 4, none⟩ = some (.slice none 0 0) := by simp [World.cell?, h54]
              have g5 : w4.cell? ⟨w1.heap.size, 5, none⟩ = some (.bool false) := by simp [World.cell?, h54]
              have g6 : w4.cell? ⟨w1.heap.size, 6, none⟩ = some (.int .i64 0) := by simp [World.cell?, h54]
              have g7 : w4.cell? ⟨w1.heap.size, 7, none⟩ = some (.slice none 0 0) := by simp [World.cell?, h54]
              have y0 : w4.frozen? ⟨w1.heap.size, 0, none⟩ = false := by simp [World.frozen?, h54]
              have y1 : w4.frozen? ⟨w1.heap.size, 1, none⟩ = false := by simp [World.frozen?, h54]
              have y2 : w4.frozen? ⟨w1.heap.size, 2, none⟩ = false := by simp [World.frozen?, h54]
              have y3 : w4.frozen? ⟨w1.heap.size, 3, none⟩ = false := by simp [World.frozen?, h54]
              have y4 : w4.frozen? ⟨w1.heap.size, 4, none⟩ = false := by simp [World.frozen?, h54]
              have y5 : w4.frozen? ⟨w1.heap.size, 5, none⟩ = false := by simp [World.frozen?, h54]
              have y6 : w4.frozen? ⟨w1.heap.size, 6, none⟩ = false := by simp [World.frozen?, h54]
              have y7 : w4.frozen? ⟨w1.heap.size, 7, none⟩ = false := by simp [World.frozen?, h54]
              have HR4 := hid hR4
              have HB4 := hid (HBU3.out.trans hB4)
              have HT4 := hid hT4
              have HT5 := hid (show TxtsM (newB U2.heap.size) w4 (.slice an a.length cn) a from TxtsM.imp HT3.out (fun _ h => h) (Keeps.of_but hB4 fun k hk => by have : U2.heap.size ≤ k := hk; omega))
              have H4u := hid ((setAll_other hn5 [.slice ak c.length ck] 4 w4).trans h44)
              have HUb := hid (setAll_below (show w.heap.size ≤ w1.heap.size by omega) [.slice ak c.length ck] 4 w4 w4 (Below.refl w.heap.size w4))
              have HKP := hid (setAll_keeps (Q := newB U2.heap.size) (b := w.heap.size) (fun k hk => by have : U2.heap.size ≤ k := hk; omega) [.int .i64 7, .int .i64 ((x.1 : Nat) : Int), .int .i64 ((x.2 : Nat) : Int), .slice an a.length cn, .slice ak c.length ck, .bool false, .int .i64 0, .slice none 0 0] 0 _ w4 (setAll_keeps (b := w1.heap.size) (fun k hk => by have : U2.heap.size ≤ k := hk; omega) [.slice ak c.length ck] 4 w4 w4 (Keeps.refl _ _)))
              clear hR4 hB4 h44 h54 hT4 p0 p1 p2 p3 p4 p5 p6 p7 t0 t1 t2 t3 t4 t5 t6 t7
              go_wp2
              have b1 := setAll_heap [.int .i64 7, .int .i64 ((x.1 : Nat) : Int), .int .i64 ((x.2 : Nat) : Int), .slice an a.length cn, .slice ak c.length ck, .bool false, .int .i64 0, .slice none 0 0] 0 _ _ H4u.out
              rw [put8] at b1
              have b4 := setAll_below (Nat.le_refl w.heap.size) [.int .i64 7, .int .i64 ((x.1 : Nat) : Int), .int .i64 ((x.2 : Nat) : Int), .slice an a.length cn, .slice ak c.length ck, .bool false, .int .i64 0, .slice none 0 0] 0 _ _ HUb.out
              have kp := HKP.out
              simp only [setAll] at b1 b4 kp
              have m0 := cell_of b1 0
              have m1 := cell_of b1 1
              have m2 := cell_of b1 2
              have m3 := cell_of b1 3
              have m4 := cell_of b1 4
              have m5 := cell_of b1 5
              have m6 := cell_of b1 6
              have m7 := cell_of b1 7
              simp at m0 m1 m2 m3 m4 m5 m6 m7
              refine bodyPost_ret (v := .agg #[.int .i64 7, .int .i64 ((x.1 : Nat) : Int), .int .i64 ((x.2 : Nat) : Int), .slice an a.length cn, .slice ak c.length ck, .bool false, .int .i64 0, .slice none 0 0]) (by simp only [results, Tryz.results195]; simp [go_sem, m0, m1, m2, m3, m4, m5, m6, m7]) rfl ?_
              rw [HE.out]
              exact ⟨_, rfl, ⟨[.int .i64 7, .int .i64 ((x.1 : Nat) : Int), .int .i64 ((x.2 : Nat) : Int), .slice an a.length cn, .slice ak c.length ck, .bool false, .int .i64 0, .slice none 0 0], rfl, ⟨_, _, _, rfl, TxtsM.imp HT5.out (fun k hk => by have : U2.heap.size ≤ k := hk; show w.heap.size ≤ k; omega) kp, TxtsM.imp (TxtsM.imp HT4.out (fun k hk => by have : U3.heap.size ≤ k := hk; show U2.heap.size ≤ k; omega) (Keeps.refl _ _)) (fun k hk => by have : U2.heap.size ≤ k := hk; show w.heap.size ≤ k; omega) kp, rowM_nil _ _ _ _ _ _⟩⟩, HR4.out.under b4 hbl, HB4.out.low b4⟩
      · subst e8
        have HQ := hid (show testP (n + 1) d r = thenR (tagsF true q 0 0) fun mp q => thenR (listR q) fun a q => thenR (listR q) fun b q => .ok ({ noneT with kind := (8 : Nat), mat := mp.1, part := mp.2, names := a, keys := b }, q) by
          rw [testP, hk]
          rfl)
        clear hk
        obtain ⟨V1, hV1⟩ : ∃ V1, V1 = w1.alloc (.cells #[.int .i64 8, .int .i64 0, .int .i64 0, .slice none 0 0, .slice none 0 0, .bool false, .int .i64 0, .slice none 0 0] 203) := ⟨_, rfl⟩
        have halv : Below w1.heap.size w1 V1 := by rw [hV1]; exact (Below.refl _ _).alloc (Nat.le_refl _) _
        have H5V := hid (show V1.heap[w1.heap.size]? = some (.cells #[.int .i64 8, .int .i64 0, .int .i64 0, .slice none 0 0, .slice none 0 0, .bool false, .int .i64 0, .slice none 0 0] 203) by rw [hV1]; exact heap_alloc_new w1 _)
        have hltv : w1.heap.size < V1.heap.size := by rw [hV1]; simp
        have HVE := hid hV1
        have H4V := hid ((halv.block _ hlt1).trans H41.out)
        have HRV := hid (HR1.out.next halv)
        have HBV := hid (HB1.out.trans (But.of halv))
        have HWV := hid (HW1.out.next halv)
        clear hV1 halv a0 a1 a2 a3 a4 a5 a6 a7 z0 z1 z2 z3 z4 z5 z6 z7
        go_wp2_with fail
        rw [← HVE.out]
        refine (rtags_any b A C L q true V1 HRV.out HWV.out hG).mono ?_
        cases hx : tagsF true q 0 0 with
        | error m =>
          have HE := hid (show testP (n + 1) d r = .error m by rw [HQ.out, hx]; rfl)
          clear hx
          rintro e w2 ⟨rfl, hB2⟩
          have HB2 := hid (HBV.out.trans hB2)
          clear hB2
          go_wp2
          rw [HE.out]
          exact ⟨rfl, rfl, HB2.out⟩
        | ok y =>
          obtain ⟨x, q2⟩ := y
          have HQ2 := hid (show testP (n + 1) d r = thenR (listR q2) fun a q => thenR (listR q) fun b q => .ok ({ noneT with kind := (8 : Nat), mat := x.1, part := x.2, names := a, keys := b }, q) by rw [HQ.out, hx]; rfl)
          clear hx HQ
          rintro e w2 ⟨v, rfl, rfl, hR2, hB2⟩
          have h42 := (hB2.block _ (Nat.lt_trans hlt1 hltv) hnb).trans H4V.out
          have h52 := (hB2.block _ hltv hn5b).trans H5V.out
          have hs2 := hB2.size
          have g0 : w2.cell? ⟨w1.heap.size, 0, none⟩ = some (.int .i64 8) := by simp [World.cell?, h52]
          have g1 : w2.cell? ⟨w1.heap.size, 1, none⟩ = some (.int .i64 0) := by simp [World.cell?, h52]
          have g2 : w2.cell? ⟨w1.heap.size, 2, none⟩ = some (.int .i64 0) := by simp [World.cell?, h52]
          have g3 : w2.cell? ⟨w1.heap.size, 3, none⟩ = some (.slice none 0 0) := by simp [World.cell?, h52]
          have g4 : w2.cell? ⟨w1.heap.size, 4, none⟩ = some (.slice none 0 0) := by simp [World.cell?, h52]
          have g5 : w2.cell? ⟨w1.heap.size, 5, none⟩ = some (.bool false) := by simp [World.cell?, h52]
          have g6 : w2.cell? ⟨w1.heap.size, 6, none⟩ = some (.int .i64 0) := by simp [World.cell?, h52]
          have g7 : w2.cell? ⟨w1.heap.size, 7, none⟩ = some (.slice none 0 0) := by simp [World.cell?, h52]
          have y0 : w2.frozen? ⟨w1.heap.size, 0, none⟩ = false := by simp [World.frozen?, h52]
          have y1 : w2.frozen? ⟨w1.heap.size, 1, none⟩ = false := by simp [World.frozen?, h52]
          have y2 : w2.frozen? ⟨w1.heap.size, 2, none⟩ = false := by simp [World.frozen?, h52]
          have y3 : w2.frozen? ⟨w1.heap.size, 3, none⟩ = false := by simp [World.frozen?, h52]
          have y4 : w2.frozen? ⟨w1.heap.size, 4, none⟩ = false := by simp [World.frozen?, h52]
          have y5 : w2.frozen? ⟨w1.heap.size, 5, none⟩ = false := by simp [World.frozen?, h52]
          have y6 : w2.frozen? ⟨w1.heap.size, 6, none⟩ = false := by simp [World.frozen?, h52]
          have y7 : w2.frozen? ⟨w1.heap.size, 7, none⟩ = false := by simp [World.frozen?, h52]
          obtain ⟨U2, hU2⟩ : ∃ U2, U2 = setAll w2 w1.heap.size 1 [.int .i64 ((x.1 : Nat) : Int), .int .i64 ((x.2 : Nat) : Int)] := ⟨_, rfl⟩
          have hbu2 : Below w1.heap.size w2 U2 := by rw [hU2]; exact setAll_below (Nat.le_refl _) _ _ _ _ (Below.refl _ _)
          have hz2 : U2.heap.size = w2.heap.size := by rw [hU2]; exact setAll_size _ _ _
          have h5u2 : U2.heap[w1.heap.size]? = some (.cells #[.int .i64 8, .int .i64 ((x.1 : Nat) : Int), .int .i64 ((x.2 : Nat) : Int), .slice none 0 0, .slice none 0 0, .bool false, .int .i64 0, .slice none 0 0] 203) := by
            rw [hU2, setAll_heap _ _ _ _ h52]
            simp [putAll]
          have h4u2 : U2.heap[w.heap.size]? = some (.cells zero8 203) := (hbu2.block _ hlt1).trans h42
          have HRU2 := hid (hR2.under hbu2 hbl1)
          have HBU2 := hid ((HBV.out.trans hB2).low (hbu2.mono (by omega)))
          have HU2E := hid (show _ = _ from hU2)
          simp only [setAll] at HU2E
          have H5U2 := hid h5u2
          have H4U2 := hid h4u2
          clear hR2 hB2 h42 h52 hU2 hbu2 h5u2 h4u2
          go_wp2_with fail
          rw [← HU2E.out]
          refine (rlist_any b A C L q2 U2 HRU2.out).mono ?_
          cases hx : listR q2 with
          | error m =>
            have HE := hid (show testP (n + 1) d r = .error m by rw [HQ2.out, hx]; rfl)
            clear hx
            rintro e w3 ⟨rfl, hB3⟩
            have HB3 := hid (HBU2.out.trans hB3)
            clear hB3
            go_wp2
            rw [HE.out]
            exact ⟨rfl, rfl, HB3.out⟩
          | ok y =>
            obtain ⟨a, q3⟩ := y
            have HQ3 := hid (show testP (n + 1) d r = thenR (listR q3) fun b q => .ok ({ noneT with kind := (8 : Nat), mat := x.1, part := x.2, names := a, keys := b }, q) by rw [HQ2.out, hx]; rfl)
            clear hx HQ2
            rintro e w3 ⟨v, rfl, hT3, hR3, hB3⟩
            obtain ⟨an, cn, rfl⟩ := hT3.slice
            have h43 := (hB3.block _ (by omega) hnb).trans H4U2.out
            have h53 := (hB3.block _ (by omega) hn5b).trans H5U2.out
            have hs3 := hB3.size
            have p0 : w3.cell? ⟨w1.heap.size, 0, none⟩ = some (.int .i64 8) := by simp [World.cell?, h53]
            have p1 : w3.cell? ⟨w1.heap.size, 1, none⟩ = some (.int .i64 ((x.1 : Nat) : Int)) := by simp [World.cell?, h53]
            have p2 : w3.cell? ⟨w1.heap.size, 2, none⟩ = some (.int .i64 ((x.2 : Nat) : Int)) := by simp [World.cell?, h53]
            have p3 : w3.cell? ⟨w1.heap.size, 3, none⟩ = some (.slice none 0 0) := by simp [World.cell?, h53]
            have p4 : w3.cell? ⟨w1.heap.size, 4, none⟩ = some (.slice none 0 0) := by simp [World.cell?, h53]
            have p5 : w3.cell? ⟨w1.heap.size, 5, none⟩ = some (.bool false) := by simp [World.cell?, h53]
            have p6 : w3.cell? ⟨w1.heap.size, 6, none⟩ = some (.int .i64 0) := by simp [World.cell?, h53]
            have p7 : w3.cell? ⟨w1.heap.size, 7, none⟩ = some (.slice none 0 0) := by simp [World.cell?, h53]
            have t0 : w3.frozen? ⟨w1.heap.size, 0, none⟩ = false := by simp [World.frozen?, h53]
            have t1 : w3.frozen? ⟨w1.heap.size, 1, none⟩ = false := by simp [World.frozen?, h53]
            have t2 : w3.frozen? ⟨w1.heap.size, 2, none⟩ = false := by simp [World.frozen?, h53]
            have t3 : w3.frozen? ⟨w1.heap.size, 3, none⟩ = false := by simp [World.frozen?, h53]
            have t4 : w3.frozen? ⟨w1.heap.size, 4, none⟩ = false := by simp [World.frozen?, h53]
            have t5 : w3.frozen? ⟨w1.heap.size, 5, none⟩ = false := by simp [World.frozen?, h53]
            have t6 : w3.frozen? ⟨w1.heap.size, 6, none⟩ = false := by simp [World.frozen?, h53]
            have t7 : w3.frozen? ⟨w1.heap.size, 7, none⟩ = false := by simp [World.frozen?, h53]
            obtain ⟨U3, hU3⟩ : ∃ U3, U3 = setAll w3 w1.heap.size 3 [.slice an a.length cn] := ⟨_, rfl⟩
            have hbu3 : Below w1.heap.size w3 U3 := by rw [hU3]; exact setAll_below (Nat.le_refl _) _ _ _ _ (Below.refl _ _)
            have hz3 : U3.heap.size = w3.heap.size := by rw [hU3]; exact setAll_size _ _ _
            have h5u3 : U3.heap[w1.heap.size]? = some (.cells #[.int .i64 8, .int .i64 ((x.1 : Nat) : Int), .int .i64 ((x.2 : Nat) : Int), .slice an a.length cn, .slice none 0 0, .bool false, .int .i64 0, .slice none 0 0] 203) := by
              rw [hU3, setAll_heap _ _ _ _ h53]
              simp [putAll]
            have h4u3 : U3.heap[w.heap.size]? = some (.cells zero8 203) := (hbu3.block _ hlt1).trans h43
            have HT3 := hid (show TxtsM (newB U2.heap.size) U3 (.slice an a.length cn) a by
              rw [hU3]; exact TxtsM.imp hT3 (fun _ h => h) (setAll_keeps (fun k hk => by have : U2.heap.size ≤ k := hk; omega) _ _ _ _ (Keeps.refl _ _)))
            have HRU3 := hid (hR3.under hbu3 hbl1)
            have HBU3 := hid ((HBU2.out.trans hB3).low (hbu3.mono (by omega)))
            have HU3E := hid (show _ = _ from hU3)
            simp only [setAll] at HU3E
            have H5U3 := hid h5u3
            have H4U3 := hid h4u3
            clear hR3 hB3 h43 h53 hU3 hbu3 h5u3 h4u3 hT3 g0 g1 g2 g3 g4 g5 g6 g7 y0 y1 y2 y3 y4 y5 y6 y7
            go_wp2_with fail
            rw [← HU3E.out]
            refine (rlist_any b A C L q3 U3 HRU3.out).mono ?_
            cases hx : listR q3 with
            | error m =>
              have HE := hid (show testP (n + 1) d r = .error m by rw [HQ3.out, hx]; rfl)
              clear hx
              rintro e w4 ⟨rfl, hB4⟩
              have HB4 := hid (HBU3.out.trans hB4)
              clear hB4
              go_wp2
              rw [HE.out]
              exact ⟨rfl, rfl, HB4.out⟩
            | ok y =>
              obtain ⟨c, q4⟩ := y
              have HE := hid (show testP (n + 1) d r = .ok ({ noneT with kind := (8 : Nat), mat := x.1, part := x.2, names := a, keys := c }, q4) by rw [HQ3.out, hx]; rfl)
              clear hx HQ3
              rintro e w4 ⟨v, rfl, hT4, hR4, hB4⟩
              obtain ⟨ak, ck, rfl⟩ := hT4.slice
              have h44 := (hB4.block _ (by omega) hnb).trans H4U3.out
              have h54 := (hB4.block _ (by omega) hn5b).trans H5U3.out
              have hs4 := hB4.size
              have a0 : w4.cell? ⟨w.heap.size, 0, none⟩ = some (.int .i64 0) := by simp [World.cell?, h44, zero8]
              have a1 : w4.cell? ⟨w.heap.size, 1, none⟩ = some (.int .i64 0) := by simp [World.cell?, h44, zero8]
              have a2 : w4.cell? ⟨w.heap.size, 2, none⟩ = some (.int .i64 0) := by simp [World.cell?, h44, zero8]
              have a3 : w4.cell? ⟨w.heap.size, 3, none⟩ = some (.slice none 0 0) := by simp [World.cell?, h44, zero8]
              have a4 : w4.cell? ⟨w.heap.size, 4, none⟩ = some (.slice none 0 0) := by simp [World.cell?, h44, zero8]
              have a5 : w4.cell? ⟨w.heap.size, 5, none⟩ = some (.bool false) := by simp [World.cell?, h44, zero8]
              have a6 : w4.cell? ⟨w.heap.size, 6, none⟩ = some (.int .i64 0) := by simp [World.cell?, h44, zero8]
              have a7 : w4.cell? ⟨w.heap.size, 7, none⟩ = some (.slice none 0 0) := by simp [World.cell?, h44, zero8]
              have z0 : w4.frozen? ⟨w.heap.size, 0, none⟩ = false := by simp [World.frozen?, h44]
              have z1 : w4.frozen? ⟨w.heap.size, 1, none⟩ = false := by simp [World.frozen?, h44]
              have z2 : w4.frozen? ⟨w.heap.size, 2, none⟩ = false := by simp [World.frozen?, h44]
              have z3 : w4.frozen? ⟨w.heap.size, 3, none⟩ = false := by simp [World.frozen?, h44]
              have z4 : w4.frozen? ⟨w.heap.size, 4, none⟩ = false := by simp [World.frozen?, h44]
              have z5 : w4.frozen? ⟨w.heap.size, 5, none⟩ = false := by simp [World.frozen?, h44]
              have z6 : w4.frozen? ⟨w.heap.size, 6, none⟩ = false := by simp [World.frozen?, h44]
              have z7 : w4.frozen? ⟨w.heap.size, 7, none⟩ = false := by simp [World.frozen?, h44]
              have g0 : w4.cell? ⟨w1.heap.size, 0, none⟩ = some (.int .i64 8) := by simp [World.cell?, h54]
              have g1 : w4.cell? ⟨w1.heap.size, 1, none⟩ = some (.int .i64 ((x.1 : Nat) : Int)) := by simp [World.cell?, h54]
              have g2 : w4.cell? ⟨w1.heap.size, 2, none⟩ = some (.int .i64 ((x.2 : Nat) : Int)) := by simp [World.cell?, h54]
              have g3 : w4.cell? ⟨w1.heap.size, 3, none⟩ = some (.slice an a.length cn) := by simp [World.cell?, h54]
              have g4 : w4.cell? ⟨w1.heap.size, 4, none⟩ = some (.slice none 0 0) := by simp [World.cell?, h54]
              have g5 : w4.cell? ⟨w1.heap.size, 5, none⟩ = some (.bool false) := by simp [World.cell?, h54]
              have g6 : w4.cell? ⟨w1.heap.size, 6, none⟩ = some (.int .i64 0) := by simp [World.cell?, h54]
              have g7 : w4.cell? ⟨w1.heap.size, 7, none⟩ = some (.slice none 0 0) := by simp [World.cell?, h54]
              have y0 : w4.frozen? ⟨w1.heap.size, 0, none⟩ = false := by simp [World.frozen?, h54]
              have y1 : w4.frozen? ⟨w1.heap.size, 1, none⟩ = false := by simp [World.frozen?, h54]
              have y2 : w4.frozen? ⟨w1.heap.size, 2, none⟩ = false := by simp [World.frozen?, h54]
              have y3 : w4.frozen? ⟨w1.heap.size, 3, none⟩ = false := by simp [World.frozen?, h54]
              have y4 : w4.frozen? ⟨w1.heap.size, 4, none⟩ = false := by simp [World.frozen?, h54]
              have y5 : w4.frozen? ⟨w1.heap.size, 5, none⟩ = false := by simp [World.frozen?, h54]
              have y6 : w4.frozen? ⟨w1.heap.size, 6, none⟩ = false := by simp [World.frozen?, h54]
              have y7 : w4.frozen? ⟨w1.heap.size, 7, none⟩ = false := by simp [World.frozen?, h54]
              have HR4 := hid hR4
              have HB4 := hid (HBU3.out.trans hB4)
              have HT4 := hid hT4
              have HT5 := hid (show TxtsM (newB U2.heap.size) w4 (.slice an a.length cn) a from TxtsM.imp HT3.out (fun _ h => h) (Keeps.of_but hB4 fun k hk => by have : U2.heap.size ≤ k := hk; omega))
              have H4u := hid ((setAll_other hn5 [.slice ak c.length ck] 4 w4).trans h44)
              have HUb := hid (setAll_below (show w.heap.size ≤ w1.heap.size by omega) [.slice ak c.length ck] 4 w4 w4 (Below.refl w.heap.size w4))
              have HKP := hid (setAll_keeps (Q := newB U2.heap.size) (b := w.heap.size) (fun k hk => by have : U2.heap.size ≤ k := hk; omega) [.int .i64 8, .int .i64 ((x.1 : Nat) : Int), .int .i64 ((x.2 : Nat) : Int), .slice an a.length cn, .slice ak c.length ck, .bool false, .int .i64 0, .slice none 0 0] 0 _ w4 (setAll_keeps (b := w1.heap.size) (fun k hk => by have : U2.heap.size ≤ k := hk; omega) [.slice ak c.length ck] 4 w4 w4 (Keeps.refl _ _)))
              clear hR4 hB4 h44 h54 hT4 p0 p1 p2 p3 p4 p5 p6 p7 t0 t1 t2 t3 t4 t5 t6 t7
              go_wp2
              have b1 := setAll_heap [.int .i64 8, .int .i64 ((x.1 : Nat) : Int), .int .i64 ((x.2 : Nat) : Int), .slice an a.length cn, .slice ak c.length ck, .bool false, .int .i64 0, .slice none 0 0] 0 _ _ H4u.out
              rw [put8] at b1
              have b4 := setAll_below (Nat.le_refl w.heap.size) [.int .i64 8, .int .i64 ((x.1 : Nat) : Int), .int .i64 ((x.2 : Nat) : Int), .slice an a.length cn, .slice ak c.length ck, .bool false, .int .i64 0, .slice none 0 0] 0 _ _ HUb.out
              have kp := HKP.out
              simp only [setAll] at b1 b4 kp
              have m0 := cell_of b1 0
              have m1 := cell_of b1 1
              have m2 := cell_of b1 2
              have m3 := cell_of b1 3
              have m4 := cell_of b1 4
              have m5 := cell_of b1 5
              have m6 := cell_of b1 6
              have m7 := cell_of b1 7
              simp at m0 m1 m2 m3 m4 m5 m6 m7
              refine bodyPost_ret (v := .agg #[.int .i64 8, .int .i64 ((x.1 : Nat) : Int), .int .i64 ((x.2 : Nat) : Int), .slice an a.length cn, .slice ak c.length ck, .bool false, .int .i64 0, .slice none 0 0]) (by simp only [results, Tryz.results195]; simp [go_sem, m0, m1, m2, m3, m4, m5, m6, m7]) rfl ?_
              rw [HE.out]
              exact ⟨_, rfl, ⟨[.int .i64 8, .int .i64 ((x.1 : Nat) : Int), .int .i64 ((x.2 : Nat) : Int), .slice an a.length cn, .slice ak c.length ck, .bool false, .int .i64 0, .slice none 0 0], rfl, ⟨_, _, _, rfl, TxtsM.imp HT5.out (fun k hk => by have : U2.heap.size ≤ k := hk; show w.heap.size ≤ k; omega) kp, TxtsM.imp (TxtsM.imp HT4.out (fun k hk => by have : U3.heap.size ≤ k := hk; show U2.heap.size ≤ k; omega) (Keeps.refl _ _)) (fun k hk => by have : U2.heap.size ≤ k := hk; show w.heap.size ≤ k; omega) kp, rowM_nil _ _ _ _ _ _⟩⟩, HR4.out.under b4 hbl, HB4.out.low b4⟩
    by_cases k9 : k = 9
    · subst k9
      have HQ := hid (show testP (n + 1) d r = thenR (listR q) fun a q => .ok ({ noneT with kind := 9, names := a }, q) by
        rw [testP, hk]
        rfl)
      clear hk
      obtain ⟨V1, hV1⟩ : ∃ V1, V1 = w1.alloc (.cells #[.int .i64 9, .int .i64 0, .int .i64 0, .slice none 0 0, .slice none 0 0, .bool false, .int .i64 0, .slice none 0 0] 203) := ⟨_, rfl⟩
      have halv : Below w1.heap.size w1 V1 := by rw [hV1]; exact (Below.refl _ _).alloc (Nat.le_refl _) _
      have H5V := hid (show V1.heap[w1.heap.size]? = some (.cells #[.int .i64 9, .int .i64 0, .int .i64 0, .slice none 0 0, .slice none 0 0, .bool false, .int .i64 0, .slice none 0 0] 203) by rw [hV1]; exact heap_alloc_new w1 _)
      have hltv : w1.heap.size < V1.heap.size := by rw [hV1]; simp
      have HVE := hid hV1
      have H4V := hid ((halv.block _ hlt1).trans H41.out)
      have HRV := hid (HR1.out.next halv)
      have HBV := hid (HB1.out.trans (But.of halv))
      have HWV := hid (HW1.out.next halv)
      clear hV1 halv a0 a1 a2 a3 a4 a5 a6 a7 z0 z1 z2 z3 z4 z5 z6 z7
      go_wp2_with fail
      rw [← HVE.out]
      refine (rlist_any b A C L q V1 HRV.out).mono ?_
      cases hx : listR q with
      | error m =>
        have HE := hid (show testP (n + 1) d r = .error m by rw [HQ.out, hx]; rfl)
        clear hx
        rintro e w2 ⟨rfl, hB2⟩
        have HB2 := hid (HBV.out.trans hB2)
        clear hB2
        go_wp2
        rw [HE.out]
        exact ⟨rfl, rfl, HB2.out⟩
      | ok y =>
        obtain ⟨x, q2⟩ := y
        have HE := hid (show testP (n + 1) d r = .ok ({ noneT with kind := 9, names := x }, q2) by rw [HQ.out, hx]; rfl)
        clear hx
        rintro e w2 ⟨v, rfl, hT, hR2, hB2⟩
        obtain ⟨an, cn, rfl⟩ := hT.slice
        have HT := hid hT
        clear hT
        have h42 := (hB2.block _ (Nat.lt_trans hlt1 hltv) hnb).trans H4V.out
        have h52 := (hB2.block _ hltv hn5b).trans H5V.out
        have hs2 := hB2.size
        have a0 : w2.cell? ⟨w.heap.size, 0, none⟩ = some (.int .i64 0) := by simp [World.cell?, h42, zero8]
        have a1 : w2.cell? ⟨w.heap.size, 1, none⟩ = some (.int .i64 0) := by simp [World.cell?, h42, zero8]
        have a2 : w2.cell? ⟨w.heap.size, 2, none⟩ = some (.int .i64 0) := by simp [World.cell?, h42, zero8]
        have a3 : w2.cell? ⟨w.heap.size, 3, none⟩ = some (.slice none 0 0) := by simp [World.cell?, h42, zero8]
        have a4 : w2.cell? ⟨w.heap.size, 4, none⟩ = some (.slice none 0 0) := by simp [World.cell?, h42, zero8]
        have a5 : w2.cell? ⟨w.heap.size, 5, none⟩ = some (.bool false) := by simp [World.cell?, h42, zero8]
        have a6 : w2.cell? ⟨w.heap.size, 6, none⟩ = some (.int .i64 0) := by simp [World.cell?, h42, zero8]
        have a7 : w2.cell? ⟨w.heap.size, 7, none⟩ = some (.slice none 0 0) := by simp [World.cell?, h42, zero8]
        have z0 : w2.frozen? ⟨w.heap.size, 0, none⟩ = false := by simp [World.frozen?, h42]
        have z1 : w2.frozen? ⟨w.heap.size, 1, none⟩ = false := by simp [World.frozen?, h42]
        have z2 : w2.frozen? ⟨w.heap.size, 2, none⟩ = false := by simp [World.frozen?, h42]
        have z3 : w2.frozen? ⟨w.heap.size, 3, none⟩ = false := by simp [World.frozen?, h42]
        have z4 : w2.frozen? ⟨w.heap.size, 4, none⟩ = false := by simp [World.frozen?, h42]
        have z5 : w2.frozen? ⟨w.heap.size, 5, none⟩ = false := by simp [World.frozen?, h42]
        have z6 : w2.frozen? ⟨w.heap.size, 6, none⟩ = false := by simp [World.frozen?, h42]
        have z7 : w2.frozen? ⟨w.heap.size, 7, none⟩ = false := by simp [World.frozen?, h42]
        have g0 : w2.cell? ⟨w1.heap.size, 0, none⟩ = some (.int .i64 9) := by simp [World.cell?, h52]
        have g1 : w2.cell? ⟨w1.heap.size, 1, none⟩ = some (.int .i64 0) := by simp [World.cell?, h52]
        have g2 : w2.cell? ⟨w1.heap.size, 2, none⟩ = some (.int .i64 0) := by simp [World.cell?, h52]
        have g3 : w2.cell? ⟨w1.heap.size, 3, none⟩ = some (.slice none 0 0) := by simp [World.cell?, h52]
        have g4 : w2.cell? ⟨w1.heap.size, 4, none⟩ = some (.slice none 0 0) := by simp [World.cell?, h52]
        have g5 : w2.cell? ⟨w1.heap.size, 5, none⟩ = some (.bool false) := by simp [World.cell?, h52]
        have g6 : w2.cell? ⟨w1.heap.size, 6, none⟩ = some (.int .i64 0) := by simp [World.cell?, h52]
        have g7 : w2.cell? ⟨w1.heap.size, 7, none⟩ = some (.slice none 0 0) := by simp [World.cell?, h52]
        have y0 : w2.frozen? ⟨w1.heap.size, 0, none⟩ = false := by simp [World.frozen?, h52]
        have y1 : w2.frozen? ⟨w1.heap.size, 1, none⟩ = false := by simp [World.frozen?, h52]
        have y2 : w2.frozen? ⟨w1.heap.size, 2, none⟩ = false := by simp [World.frozen?, h52]
        have y3 : w2.frozen? ⟨w1.heap.size, 3, none⟩ = false := by simp [World.frozen?, h52]
        have y4 : w2.frozen? ⟨w1.heap.size, 4, none⟩ = false := by simp [World.frozen?, h52]
        have y5 : w2.frozen? ⟨w1.heap.size, 5, none⟩ = false := by simp [World.frozen?, h52]
        have y6 : w2.frozen? ⟨w1.heap.size, 6, none⟩ = false := by simp [World.frozen?, h52]
        have y7 : w2.frozen? ⟨w1.heap.size, 7, none⟩ = false := by simp [World.frozen?, h52]
        have HR2 := hid hR2
        have HB2 := hid (HBV.out.trans hB2)
        have H4u := hid ((setAll_other hn5 [.slice an x.length cn] 3 w2).trans h42)
        have HUb := hid (setAll_below (show w.heap.size ≤ w1.heap.size by omega) [.slice an x.length cn] 3 w2 w2 (Below.refl w.heap.size w2))
        have HKP := hid (setAll_keeps (Q := newB V1.heap.size) (b := w.heap.size) (fun k hk => by have : V1.heap.size ≤ k := hk; omega) [.int .i64 9, .int .i64 0, .int .i64 0, .slice an x.length cn, .slice none 0 0, .bool false, .int .i64 0, .slice none 0 0] 0 _ w2 (setAll_keeps (b := w1.heap.size) (fun k hk => by have : V1.heap.size ≤ k := hk; omega) [.slice an x.length cn] 3 w2 w2 (Keeps.refl _ _)))
        clear hR2 hB2 h42 h52
        go_wp2
        have b1 := setAll_heap [.int .i64 9, .int .i64 0, .int .i64 0, .slice an x.length cn, .slice none 0 0, .bool false, .int .i64 0, .slice none 0 0] 0 _ _ H4u.out
        rw [put8] at b1
        have b4 := setAll_below (Nat.le_refl w.heap.size) [.int .i64 9, .int .i64 0, .int .i64 0, .slice an x.length cn, .slice none 0 0, .bool false, .int .i64 0, .slice none 0 0] 0 _ _ HUb.out
        have kp := HKP.out
        simp only [setAll] at b1 b4 kp
        have m0 := cell_of b1 0
        have m1 := cell_of b1 1
        have m2 := cell_of b1 2
        have m3 := cell_of b1 3
        have m4 := cell_of b1 4
        have m5 := cell_of b1 5
        have m6 := cell_of b1 6
        have m7 := cell_of b1 7
        simp at m0 m1 m2 m3 m4 m5 m6 m7
        refine bodyPost_ret (v := .agg #[.int .i64 9, .int .i64 0, .int .i64 0, .slice an x.length cn, .slice none 0 0, .bool false, .int .i64 0, .slice none 0 0]) (by simp only [results, Tryz.results195]; simp [go_sem, m0, m1, m2, m3, m4, m5, m6, m7]) rfl ?_
        rw [HE.out]
        exact ⟨_, rfl, ⟨[.int .i64 9, .int .i64 0, .int .i64 0, .slice an x.length cn, .slice none 0 0, .bool false, .int .i64 0, .slice none 0 0], rfl, ⟨_, _, _, rfl, TxtsM.imp HT.out (fun k hk => by have : V1.heap.size ≤ k := hk; show w.heap.size ≤ k; omega) kp, rowM_nil _ _ _ _ _ _, rowM_nil _ _ _ _ _ _⟩⟩, HR2.out.under b4 hbl, HB2.out.low b4⟩
    by_cases k10 : k = 10
    · subst k10
      have HQ := hid (show testP (n + 1) d r = thenR (boundR q) fun b q => .ok ({ noneT with kind := 10, over := b.1, limit := b.2 }, q) by
        rw [testP, hk]
        rfl)
      clear hk
      obtain ⟨V1, hV1⟩ : ∃ V1, V1 = w1.alloc (.cells #[.int .i64 10, .int .i64 0, .int .i64 0, .slice none 0 0, .slice none 0 0, .bool false, .int .i64 0, .slice none 0 0] 203) := ⟨_, rfl⟩
      have halv : Below w1.heap.size w1 V1 := by rw [hV1]; exact (Below.refl _ _).alloc (Nat.le_refl _) _
      have H5V := hid (show V1.heap[w1.heap.size]? = some (.cells #[.int .i64 10, .int .i64 0, .int .i64 0, .slice none 0 0, .slice none 0 0, .bool false, .int .i64 0, .slice none 0 0] 203) by rw [hV1]; exact heap_alloc_new w1 _)
      have hltv : w1.heap.size < V1.heap.size := by rw [hV1]; simp
      have HVE := hid hV1
      have H4V := hid ((halv.block _ hlt1).trans H41.out)
      have HRV := hid (HR1.out.next halv)
      have HBV := hid (HB1.out.trans (But.of halv))
      have HWV := hid (HW1.out.next halv)
      clear hV1 halv a0 a1 a2 a3 a4 a5 a6 a7 z0 z1 z2 z3 z4 z5 z6 z7
      go_wp2_with fail
      rw [← HVE.out]
      refine (rbound_any b A C L q V1 HRV.out).mono ?_
      cases hx : boundR q with
      | error m =>
        have HE := hid (show testP (n + 1) d r = .error m by rw [HQ.out, hx]; rfl)
        clear hx
        rintro e w2 ⟨rfl, hB2⟩
        have HB2 := hid (HBV.out.trans hB2)
        clear hB2
        go_wp2
        rw [HE.out]
        exact ⟨rfl, rfl, HB2.out⟩
      | ok y =>
        obtain ⟨x, q2⟩ := y
        have HE := hid (show testP (n + 1) d r = .ok ({ noneT with kind := 10, over := x.1, limit := x.2 }, q2) by rw [HQ.out, hx]; rfl)
        clear hx
        rintro e w2 ⟨v, rfl, rfl, hR2, hB2⟩
        have h42 := (hB2.block _ (Nat.lt_trans hlt1 hltv) hnb).trans H4V.out
        have h52 := (hB2.block _ hltv hn5b).trans H5V.out
        have hs2 := hB2.size
        have a0 : w2.cell? ⟨w.heap.size, 0, none⟩ = some (.int .i64 0) := by simp [World.cell?, h42, zero8]
        have a1 : w2.cell? ⟨w.heap.size, 1, none⟩ = some (.int .i64 0) := by simp [World.cell?, h42, zero8]
        have a2 : w2.cell? ⟨w.heap.size, 2, none⟩ = some (.int .i64 0) := by simp [World.cell?, h42, zero8]
        have a3 : w2.cell? ⟨w.heap.size, 3, none⟩ = some (.slice none 0 0) := by simp [World.cell?, h42, zero8]
        have a4 : w2.cell? ⟨w.heap.size, 4, none⟩ = some (.slice none 0 0) := by simp [World.cell?, h42, zero8]
        have a5 : w2.cell? ⟨w.heap.size, 5, none⟩ = some (.bool false) := by simp [World.cell?, h42, zero8]
        have a6 : w2.cell? ⟨w.heap.size, 6, none⟩ = some (.int .i64 0) := by simp [World.cell?, h42, zero8]
        have a7 : w2.cell? ⟨w.heap.size, 7, none⟩ = some (.slice none 0 0) := by simp [World.cell?, h42, zero8]
        have z0 : w2.frozen? ⟨w.heap.size, 0, none⟩ = false := by simp [World.frozen?, h42]
        have z1 : w2.frozen? ⟨w.heap.size, 1, none⟩ = false := by simp [World.frozen?, h42]
        have z2 : w2.frozen? ⟨w.heap.size, 2, none⟩ = false := by simp [World.frozen?, h42]
        have z3 : w2.frozen? ⟨w.heap.size, 3, none⟩ = false := by simp [World.frozen?, h42]
        have z4 : w2.frozen? ⟨w.heap.size, 4, none⟩ = false := by simp [World.frozen?, h42]
        have z5 : w2.frozen? ⟨w.heap.size, 5, none⟩ = false := by simp [World.frozen?, h42]
        have z6 : w2.frozen? ⟨w.heap.size, 6, none⟩ = false := by simp [World.frozen?, h42]
        have z7 : w2.frozen? ⟨w.heap.size, 7, none⟩ = false := by simp [World.frozen?, h42]
        have g0 : w2.cell? ⟨w1.heap.size, 0, none⟩ = some (.int .i64 10) := by simp [World.cell?, h52]
        have g1 : w2.cell? ⟨w1.heap.size, 1, none⟩ = some (.int .i64 0) := by simp [World.cell?, h52]
        have g2 : w2.cell? ⟨w1.heap.size, 2, none⟩ = some (.int .i64 0) := by simp [World.cell?, h52]
        have g3 : w2.cell? ⟨w1.heap.size, 3, none⟩ = some (.slice none 0 0) := by simp [World.cell?, h52]
        have g4 : w2.cell? ⟨w1.heap.size, 4, none⟩ = some (.slice none 0 0) := by simp [World.cell?, h52]
        have g5 : w2.cell? ⟨w1.heap.size, 5, none⟩ = some (.bool false) := by simp [World.cell?, h52]
        have g6 : w2.cell? ⟨w1.heap.size, 6, none⟩ = some (.int .i64 0) := by simp [World.cell?, h52]
        have g7 : w2.cell? ⟨w1.heap.size, 7, none⟩ = some (.slice none 0 0) := by simp [World.cell?, h52]
        have y0 : w2.frozen? ⟨w1.heap.size, 0, none⟩ = false := by simp [World.frozen?, h52]
        have y1 : w2.frozen? ⟨w1.heap.size, 1, none⟩ = false := by simp [World.frozen?, h52]
        have y2 : w2.frozen? ⟨w1.heap.size, 2, none⟩ = false := by simp [World.frozen?, h52]
        have y3 : w2.frozen? ⟨w1.heap.size, 3, none⟩ = false := by simp [World.frozen?, h52]
        have y4 : w2.frozen? ⟨w1.heap.size, 4, none⟩ = false := by simp [World.frozen?, h52]
        have y5 : w2.frozen? ⟨w1.heap.size, 5, none⟩ = false := by simp [World.frozen?, h52]
        have y6 : w2.frozen? ⟨w1.heap.size, 6, none⟩ = false := by simp [World.frozen?, h52]
        have y7 : w2.frozen? ⟨w1.heap.size, 7, none⟩ = false := by simp [World.frozen?, h52]
        have HR2 := hid hR2
        have HB2 := hid (HBV.out.trans hB2)
        have H4u := hid ((setAll_other hn5 [.bool x.1, .int .i64 x.2] 5 w2).trans h42)
        have HUb := hid (setAll_below (show w.heap.size ≤ w1.heap.size by omega) [.bool x.1, .int .i64 x.2] 5 w2 w2 (Below.refl w.heap.size w2))
        have HKP := hid (setAll_keeps (Q := newB V1.heap.size) (b := w.heap.size) (fun k hk => by have : V1.heap.size ≤ k := hk; omega) [.int .i64 10, .int .i64 0, .int .i64 0, .slice none 0 0, .slice none 0 0, .bool x.1, .int .i64 x.2, .slice none 0 0] 0 _ w2 (setAll_keeps (b := w1.heap.size) (fun k hk => by have : V1.heap.size ≤ k := hk; omega) [.bool x.1, .int .i64 x.2] 5 w2 w2 (Keeps.refl _ _)))
        clear hR2 hB2 h42 h52
        go_wp2
        have b1 := setAll_heap [.int .i64 10, .int .i64 0, .int .i64 0, .slice none 0 0, .slice none 0 0, .bool x.1, .int .i64 x.2, .slice none 0 0] 0 _ _ H4u.out
        rw [put8] at b1
        have b4 := setAll_below (Nat.le_refl w.heap.size) [.int .i64 10, .int .i64 0, .int .i64 0, .slice none 0 0, .slice none 0 0, .bool x.1, .int .i64 x.2, .slice none 0 0] 0 _ _ HUb.out
        have kp := HKP.out
        simp only [setAll] at b1 b4 kp
        have m0 := cell_of b1 0
        have m1 := cell_of b1 1
        have m2 := cell_of b1 2
        have m3 := cell_of b1 3
        have m4 := cell_of b1 4
        have m5 := cell_of b1 5
        have m6 := cell_of b1 6
        have m7 := cell_of b1 7
        simp at m0 m1 m2 m3 m4 m5 m6 m7
        refine bodyPost_ret (v := .agg #[.int .i64 10, .int .i64 0, .int .i64 0, .slice none 0 0, .slice none 0 0, .bool x.1, .int .i64 x.2, .slice none 0 0]) (by simp only [results, Tryz.results195]; simp [go_sem, m0, m1, m2, m3, m4, m5, m6, m7]) rfl ?_
        rw [HE.out]
        exact ⟨_, rfl, ⟨[.int .i64 10, .int .i64 0, .int .i64 0, .slice none 0 0, .slice none 0 0, .bool x.1, .int .i64 x.2, .slice none 0 0], rfl, ⟨_, _, _, rfl, rowM_nil _ _ _ _ _ _, rowM_nil _ _ _ _ _ _, rowM_nil _ _ _ _ _ _⟩⟩, HR2.out.under b4 hbl, HB2.out.low b4⟩
    have HE := hid (show testP (n + 1) d r = .ok ({ noneT with kind := k }, q) by
      rw [testP, hk]
      show (if _ then _ else if _ then _ else if _ then _ else if _ then _ else if _ then _ else _) = _
      rw [if_neg k3, if_neg k45, if_neg k678, if_neg k9, if_neg k10])
    have c3 : ((k : Int) == 3) = false := by rw [beq_eq_false_iff_ne]; omega
    have c4 : ((k : Int) == 4) = false := by rw [beq_eq_false_iff_ne]; omega
    have c5 : ((k : Int) == 5) = false := by rw [beq_eq_false_iff_ne]; omega
    have c6 : ((k : Int) == 6) = false := by rw [beq_eq_false_iff_ne]; omega
    have c7 : ((k : Int) == 7) = false := by rw [beq_eq_false_iff_ne]; omega
    have c8 : ((k : Int) == 8) = false := by rw [beq_eq_false_iff_ne]; omega
    have c9 : ((k : Int) == 9) = false := by rw [beq_eq_false_iff_ne]; omega
    have c10 : ((k : Int) == 10) = false := by rw [beq_eq_false_iff_ne]; omega
    clear hk k3 k45 k678 k9 k10
    have H4u := H41
    have HUb := hid (Below.refl w.heap.size w1)
    go_wp2
    have hu4 : (w1).heap[w.heap.size]? = some (.cells zero8 203) := H4u.out
    have hub : Below w.heap.size w1 (w1) := HUb.out
    obtain ⟨b1, b2, b3, b4, b5⟩ := boxed (t := 203) 0 [(.int .i64 (k : Nat)), (.int .i64 0), (.int .i64 0), (.slice none 0 0), (.slice none 0 0), (.bool false), (.int .i64 0), (.slice none 0 0)] (.cells #[.int .i64 (k : Nat), .int .i64 0, .int .i64 0, .slice none 0 0, .slice none 0 0, .bool false, .int .i64 0, .slice none 0 0] 203) hu4 hub (Nat.le_refl _) #[(.int .i64 (k : Nat)), (.int .i64 0), (.int .i64 0), (.slice none 0 0), (.slice none 0 0), (.bool false), (.int .i64 0), (.slice none 0 0)] (put8 _ _ _ _ _ _ _ _)
    simp only [setAll] at b1 b2 b3 b4 b5
    have m0 := cell_of b1 0
    have m1 := cell_of b1 1
    have m2 := cell_of b1 2
    have m3 := cell_of b1 3
    have m4 := cell_of b1 4
    have m5 := cell_of b1 5
    have m6 := cell_of b1 6
    have m7 := cell_of b1 7
    simp at m0 m1 m2 m3 m4 m5 m6 m7
    refine bodyPost_ret (v := .agg #[(.int .i64 (k : Nat)), (.int .i64 0), (.int .i64 0), (.slice none 0 0), (.slice none 0 0), (.bool false), (.int .i64 0), (.slice none 0 0)]) (by simp only [results, Tryz.results195]; simp [go_sem, m0, m1, m2, m3, m4, m5, m6, m7]) rfl ?_
    rw [HE.out]
    exact ⟨_, rfl, ⟨[(.int .i64 (k : Nat)), (.int .i64 0), (.int .i64 0), (.slice none 0 0), (.slice none 0 0), (.bool false), (.int .i64 0), (.slice none 0 0)], rfl, ⟨_, _, _, rfl, rowM_nil _ _ _ _ _ _, rowM_nil _ _ _ _ _ _, rowM_nil _ _ _ _ _ _⟩⟩, HR1.out.under b4 hbl, HB1.out.low b4⟩
end Go.Proofs.YtepfniiojjefhaaGreatDoor
