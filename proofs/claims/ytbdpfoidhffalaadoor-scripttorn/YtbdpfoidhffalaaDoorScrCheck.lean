/-
  What script.checkTest does: the walk.
-/
import Derived.Test.YtbdpfoidhffalaaDoorScrFit
import Derived.Deep.RegionHeld3
namespace Go.Proofs.YtbdpfoidhffalaaDoor
open Go.RowKit Go.Proofs

theorem one_oneN (k f : Bool) (d : Nat) : oneN k (d : Int) f = oneP k d f := by
  unfold oneN oneP
  cases k <;> cases f <;> simp <;> split <;> split <;> first | rfl | omega
theorem tst_form {Q : Nat → Prop} {n : Nat} {w : World} {t : Tst} {cs : List Value} (h : TstM Q n w t cs) : ∃ an cn ak ck at' ct m, n = m + 1 ∧
    cs = [.int .i64 t.kind, .int .i64 t.mat, .int .i64 t.part, .slice an t.names.length cn, .slice ak t.keys.length ck, .bool t.over, .int .i64 t.limit, .slice at' t.tests.length ct] ∧
    TxtsM Q w (.slice an t.names.length cn) t.names ∧ TxtsM Q w (.slice ak t.keys.length ck) t.keys ∧ TstsM Q m w (.slice at' t.tests.length ct) t.tests := by
  cases n with
  | zero => exact h.elim
  | succ m =>
    obtain ⟨vn, vk, vt, h0, h1, h2, h3⟩ := h
    obtain ⟨an, cn, rfl⟩ := h1.slice
    obtain ⟨ak, ck, rfl⟩ := h2.slice
    obtain ⟨at', ct, rfl⟩ := h3.slice
    exact ⟨an, cn, ak, ck, at', ct, m, rfl, h0, h1, h2, h3⟩
theorem tst_at {Q : Nat → Prop} {n : Nat} {w : World} {a : Option Addr} {c : Nat} {l : List Tst} (h : TstsM Q n w (.slice a l.length c) l) {i : Nat} {x : Tst} (hx : l[i]? = some x) :
    ∃ b o an cn ak ck at' ct, a = some ⟨b, o, none⟩ ∧ b < w.heap.size ∧
      w.cell? ⟨b, o + i * 8, none⟩ = some (.int .i64 x.kind) ∧ w.cell? ⟨b, o + i * 8 + 1, none⟩ = some (.int .i64 x.mat) ∧ w.cell? ⟨b, o + i * 8 + 2, none⟩ = some (.int .i64 x.part) ∧
      w.cell? ⟨b, o + i * 8 + 3, none⟩ = some (.slice an x.names.length cn) ∧ w.cell? ⟨b, o + i * 8 + 4, none⟩ = some (.slice ak x.keys.length ck) ∧ w.cell? ⟨b, o + i * 8 + 5, none⟩ = some (.bool x.over) ∧
      w.cell? ⟨b, o + i * 8 + 6, none⟩ = some (.int .i64 x.limit) ∧ w.cell? ⟨b, o + i * 8 + 7, none⟩ = some (.slice at' x.tests.length ct) ∧
      TstM Q n w x [.int .i64 x.kind, .int .i64 x.mat, .int .i64 x.part, .slice an x.names.length cn, .slice ak x.keys.length ck, .bool x.over, .int .i64 x.limit, .slice at' x.tests.length ct] := by
  obtain ⟨a', c', hv, _, hr⟩ := h
  simp only [Value.slice.injEq, true_and] at hv
  obtain ⟨rfl, rfl⟩ := hv
  obtain ⟨b, o, cs, ha, hb, _, _, hc, hP⟩ := hr i x hx
  obtain ⟨an, cn, ak, ck, at', ct, m, _, rfl, _⟩ := tst_form hP
  exact ⟨b, o, an, cn, ak, ck, at', ct, ha, hb, hc 0 _ rfl, hc 1 _ rfl, hc 2 _ rfl, hc 3 _ rfl, hc 4 _ rfl, hc 5 _ rfl, hc 6 _ rfl, hc 7 _ rfl, hP⟩

set_option maxHeartbeats 8000000 in
set_option maxRecDepth 100000 in
theorem checkTest_any (n : Nat) : ∀ (t : Tst) (d : Nat) (w : World) (an ak at' : Option Addr) (cn ck ct : Nat), d ≤ 7 → WordsAt w →
    TstM anyB n w t [.int .i64 t.kind, .int .i64 t.mat, .int .i64 t.part, .slice an t.names.length cn, .slice ak t.keys.length ck, .bool t.over, .int .i64 t.limit, .slice at' t.tests.length ct] →
    Calls Tryd.prog 61 #[.agg #[.int .i64 t.kind, .int .i64 t.mat, .int .i64 t.part, .slice an t.names.length cn, .slice ak t.keys.length ck, .bool t.over, .int .i64 t.limit, .slice at' t.tests.length ct], .int .i64 d] w
      fun e w' => e = .returned (.int .i64 (faultTst n d t)) ∧ Below w.heap.size w w' := by
  induction n with
  | zero => intro t d w an ak at' cn ck ct _ _ h; exact h.elim
  | succ n ih =>
    intro t d w an ak at' cn ck ct hd hw hT
    obtain ⟨_, _, _, _, _, _, m, hm, he, h1, h2, h3⟩ := tst_form hT
    simp only [List.cons.injEq, Value.slice.injEq, true_and, and_true] at he
    obtain ⟨⟨rfl, rfl⟩, ⟨rfl, rfl⟩, rfl, rfl⟩ := he
    obtain rfl : n = m := by omega
    clear hm h1 h2 hT
    have H3 : Hid (TstsM anyB n w (.slice at' t.tests.length ct) t.tests) := h3
    have HIH : Hid _ := ih
    have HW : Hid (WordsAt w) := hw
    clear h3 ih hw
    obtain ⟨W0, hW0⟩ : ∃ W0, W0 = w.alloc (.cells #[.int .i64 t.kind, .int .i64 t.mat, .int .i64 t.part, .slice an t.names.length cn, .slice ak t.keys.length ck, .bool t.over, .int .i64 t.limit, .slice at' t.tests.length ct] 44) := ⟨_, rfl⟩
    have hB0 : Below w.heap.size w W0 := by rw [hW0]; exact (Below.refl _ _).alloc (Nat.le_refl _) _
    have hH : W0.heap[w.heap.size]? = some (.cells #[.int .i64 t.kind, .int .i64 t.mat, .int .i64 t.part, .slice an t.names.length cn, .slice ak t.keys.length ck, .bool t.over, .int .i64 t.limit, .slice at' t.tests.length ct] 44) := by rw [hW0]; exact heap_alloc_new w _
    have HW0 : Hid (WordsAt W0) := HW.out.next hB0
    have HWE : Hid _ := hW0
    have HB0 : Hid _ := hB0
    clear hW0 hB0
    have g0 : W0.cell? ⟨w.heap.size, 0, none⟩ = some (.int .i64 t.kind) := by simp [World.cell?, hH]
    have g1 : W0.cell? ⟨w.heap.size, 1, none⟩ = some (.int .i64 t.mat) := by simp [World.cell?, hH]
    have g2 : W0.cell? ⟨w.heap.size, 2, none⟩ = some (.int .i64 t.part) := by simp [World.cell?, hH]
    have g3 : W0.cell? ⟨w.heap.size, 3, none⟩ = some (.slice an t.names.length cn) := by simp [World.cell?, hH]
    have g4 : W0.cell? ⟨w.heap.size, 4, none⟩ = some (.slice ak t.keys.length ck) := by simp [World.cell?, hH]
    have g5 : W0.cell? ⟨w.heap.size, 5, none⟩ = some (.bool t.over) := by simp [World.cell?, hH]
    have g6 : W0.cell? ⟨w.heap.size, 6, none⟩ = some (.int .i64 t.limit) := by simp [World.cell?, hH]
    have g7 : W0.cell? ⟨w.heap.size, 7, none⟩ = some (.slice at' t.tests.length ct) := by simp [World.cell?, hH]
    clear hH
    have HF := fits_fitB t
    go_enter Tryd.func61, Tryd.ntmps61
    go_wp2
    rw [← HWE.out]
    go_region_held3 (fun w' => w'.cell? ⟨w.heap.size, 0, none⟩ = some (.int .i64 t.kind) ∧ w'.cell? ⟨w.heap.size, 1, none⟩ = some (.int .i64 t.mat) ∧ w'.cell? ⟨w.heap.size, 2, none⟩ = some (.int .i64 t.part) ∧
        w'.cell? ⟨w.heap.size, 3, none⟩ = some (.slice an t.names.length cn) ∧ w'.cell? ⟨w.heap.size, 4, none⟩ = some (.slice ak t.keys.length ck) ∧ w'.cell? ⟨w.heap.size, 5, none⟩ = some (.bool t.over) ∧
        w'.cell? ⟨w.heap.size, 6, none⟩ = some (.int .i64 t.limit) ∧ w'.cell? ⟨w.heap.size, 7, none⟩ = some (.slice at' t.tests.length ct)) (go_keep)
      (first
         | (go_at_call 59
            refine (isNum_any 1 (by omega) t.kind _ (by first | exact HW0.out | exact HWu.out)).mono ?_
            rintro e u ⟨rfl, hu⟩
            have hu' := hu.symm
            subst hu')
         | (go_at_call 80
            refine (testFits_any _ _ _ _ _ _ _ _ _ _ _ _ _ _ _ (by exact HW0.out)).mono ?_
            rintro e u2 ⟨rfl, hb⟩
            have HWu : Hid (WordsAt u2) := HW0.out.next (w := W0.drew) hb
            have d0 : u2.cell? ⟨w.heap.size, 0, none⟩ = some (.int .i64 t.kind) := wcell_next (w := W0.drew) g0 hb
            have d1 : u2.cell? ⟨w.heap.size, 1, none⟩ = some (.int .i64 t.mat) := wcell_next (w := W0.drew) g1 hb
            have d2 : u2.cell? ⟨w.heap.size, 2, none⟩ = some (.int .i64 t.part) := wcell_next (w := W0.drew) g2 hb
            have d3 : u2.cell? ⟨w.heap.size, 3, none⟩ = some (.slice an t.names.length cn) := wcell_next (w := W0.drew) g3 hb
            have d4 : u2.cell? ⟨w.heap.size, 4, none⟩ = some (.slice ak t.keys.length ck) := wcell_next (w := W0.drew) g4 hb
            have d5 : u2.cell? ⟨w.heap.size, 5, none⟩ = some (.bool t.over) := wcell_next (w := W0.drew) g5 hb
            have d6 : u2.cell? ⟨w.heap.size, 6, none⟩ = some (.int .i64 t.limit) := wcell_next (w := W0.drew) g6 hb
            have d7 : u2.cell? ⟨w.heap.size, 7, none⟩ = some (.slice at' t.tests.length ct) := wcell_next (w := W0.drew) g7 hb)
         | (go_at_call 58
            refine (checkOne_any _ _ _ _).mono ?_
            rintro e u ⟨rfl, hu⟩
            have hu' := hu.symm
            subst hu'))
    have HB2 : Hid (Below w.heap.size w u2) := (HB0.out.drew).trans (hb.mono HB0.out.drew.size)
    rw [← HF, one_oneN]
    obtain ⟨x, hx⟩ : ∃ x, x = oneP (isNumP 1 t.kind) d (fitsT t) := ⟨_, rfl⟩
    rw [← hx]
    by_cases hx0 : x = 0
    · have hd6 : d ≤ 6 := by
        rw [hx0] at hx
        unfold oneP at hx
        rcases Nat.lt_or_ge 6 d with h | h
        · rw [if_pos h] at hx; split at hx <;> cases hx
        · exact h
      have HR : Hid (faultTst (n + 1) d t = firstP (faultTst n (d + 1)) t.tests) := by
        unfold Hid faultTst; rw [← hx, if_pos hx0]
      have hd' : (d : Int) ≤ 6 := by omega
      have hd0 : (0 : Int) ≤ (d : Int) := by omega
      subst hx0
      have HH3 : Hid (TstsM anyB n u2 (.slice at' t.tests.length ct) t.tests) := RowM.imp H3.out (fun _ h => h) (Keeps.of_below HB2.out) fun _ _ h => TstM.imp (fun _ h => h) (Keeps.of_below HB2.out) _ _ _ h
      have hmx := HH3.out.small
      unfold maxLen at hmx
      clear hx HF hb H3 HB0 HW0 HW g0 g1 g2 g3 g4 g5 g6 g7 HWE
      go_wp2
      go_loopw [22] (fun v wr => ∃ i : Nat, i ≤ t.tests.length ∧ v = .int .i64 i ∧ Below w.heap.size w wr ∧ Below u2.heap.size u2 wr ∧ Hid (faultTst (n + 1) d t = firstP (faultTst n (d + 1)) (t.tests.drop i))) (fun v _ => t.tests.length - (intOf v).toNat)
      case atStart => exact ⟨0, Nat.zero_le _, rfl, HB2.out, Below.refl _ _, HR⟩
      case round =>
        obtain ⟨i, hi, rfl, hBw, hBu, hN⟩ := hrel
        have HBw : Hid _ := hBw
        have HBu : Hid _ := hBu
        by_cases hlt : i < t.tests.length
        · have i1 : (i : Int) < (t.tests.length : Int) := by omega
          have i3 : (0 : Int) ≤ (i : Int) := by omega
          obtain ⟨x, hx⟩ : ∃ x, t.tests[i]? = some x := ⟨_, List.getElem?_eq_getElem hlt⟩
          obtain ⟨b, o, an', cn', ak', ck', at2, ct2, rfl, hbl, e0, e1, e2, e3, e4, e5, e6, e7, hT⟩ := tst_at (HH3.out.next hBu) hx
          have HN2 : Hid (faultTst (n + 1) d t = if faultTst n (d + 1) x = 0 then firstP (faultTst n (d + 1)) (t.tests.drop (i + 1)) else faultTst n (d + 1) x) := by
            unfold Hid
            rw [hN.out, List.drop_eq_getElem_cons hlt]
            rw [List.getElem?_eq_getElem hlt] at hx
            cases hx
            rfl
          have HT : Hid _ := hT
          have HWr : Hid (WordsAt wr) := HWu.out.next hBu
          clear hx hT hN hBw hBu
          have hal : Below wr.heap.size wr (wr.alloc (.cells #[.int .i64 x.kind, .int .i64 x.mat, .int .i64 x.part, .slice an' x.names.length cn', .slice ak' x.keys.length ck', .bool x.over, .int .i64 x.limit, .slice at2 x.tests.length ct2] 44)) := (Below.refl _ _).alloc (Nat.le_refl _) _
          have HAL : Hid _ := hal
          clear hal
          go_wp2_with fail
          rw [show ((d : Int) + 1) = ((d + 1 : Nat) : Int) from rfl]
          refine (HIH.out x (d + 1) _ _ _ _ _ _ _ (by omega) (HWr.out.next HAL.out) (HT.out.next HAL.out)).mono ?_
          rintro e w2 ⟨rfl, hb2⟩
          have hBr : Below wr.heap.size wr w2 := HAL.out.trans (hb2.mono HAL.out.size)
          have HB3 : Hid (Below w.heap.size w w2) := HBw.out.trans (hBr.mono HBw.out.size)
          have HB4 : Hid (Below u2.heap.size u2 w2) := HBu.out.trans (hBr.mono HBu.out.size)
          obtain ⟨y, hy⟩ : ∃ y, y = faultTst n (d + 1) x := ⟨_, rfl⟩
          rw [← hy]
          have HN3 : Hid (faultTst (n + 1) d t = if y = 0 then firstP (faultTst n (d + 1)) (t.tests.drop (i + 1)) else y) := by unfold Hid; rw [HN2.out, ← hy]
          clear hy HN2 hb2 hBr e0 e1 e2 e3 e4 e5 e6 e7
          by_cases hy : y = 0
          · have HN4 : Hid (faultTst (n + 1) d t = firstP (faultTst n (d + 1)) (t.tests.drop (i + 1))) := by unfold Hid; rw [HN3.out, if_pos hy]
            subst hy
            go_wp2
            exact ⟨⟨i + 1, by omega, by go_num, HB3.out, HB4.out, HN4⟩, by simp [intOf]; omega⟩
          · have HN4 : Hid (faultTst (n + 1) d t = y) := by unfold Hid; rw [HN3.out, if_neg hy]
            go_wp2
            go_ret
            exact ⟨ret_int HN4.out.symm, HB3.out⟩
        · have i1 : ¬ (i : Int) < (t.tests.length : Int) := by omega
          have HE : Hid (faultTst (n + 1) d t = 0) := by unfold Hid; rw [hN.out, List.drop_eq_nil_of_le (by omega)]; rfl
          go_wp2
          go_ret
          exact ⟨ret_int HE.out.symm, HBw.out⟩
    · have HR : Hid (faultTst (n + 1) d t = x) := by
        unfold Hid faultTst; rw [← hx, if_neg hx0]
      clear hx HF
      go_wp2
      go_ret
      exact ⟨ret_int HR.out.symm, HB2.out⟩
end Go.Proofs.YtbdpfoidhffalaaDoor
