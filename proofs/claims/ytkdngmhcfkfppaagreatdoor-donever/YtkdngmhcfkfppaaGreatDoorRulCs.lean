/-
  What rule.checkEnvelope does: the walk.
  What rule.checkTest does: the walk.
  What rule.checkCommands and rule.checkIf do, checkCommand given: the walks.
  What rule.checkCommand does: the walk.
  What rule.Check does: the walk.
-/
import Derived.Test.YtkdngmhcfkfppaaGreatDoorRulMp
import Derived.Test.YtkdngmhcfkfppaaGreatDoorRulFlag
import Derived.Test.YtkdngmhcfkfppaaGreatDoorRulName
import Derived.Test.YtkdngmhcfkfppaaGreatDoorScrW
import Derived.Test.YtkdngmhcfkfppaaGreatDoorStkMem
namespace Go.Proofs.YtkdngmhcfkfppaaGreatDoor
open Go.RowKit Go.Proofs Go.Maps

theorem partAll_step {l : List (List UInt8)} {i : Nat} {x : List UInt8} (h : l[i]? = some x) : (l.drop i).all partP = (partP x && (l.drop (i + 1)).all partP) := by
  have hi : i < l.length := (List.getElem?_eq_some_iff.1 h).1
  have e : l[i] = x := (List.getElem?_eq_some_iff.1 h).2
  rw [List.drop_eq_getElem_cons hi, e]; rfl

set_option maxHeartbeats 4000000 in
set_option maxRecDepth 100000 in
theorem checkEnv_any (t : Tst) (w : World) (an ak at' : Option Addr) (cn ck ct B N : Nat) (H : List (List UInt8)) (hM : ReqM w B N H) (hw : TabAt w 7 partT)
    (hT : TxtsM anyB w (.slice an t.names.length cn) t.names) :
    Calls Tryz.prog 153 #[.map (some B), .agg #[.int .i64 t.kind, .int .i64 t.mat, .int .i64 t.part, .slice an t.names.length cn, .slice ak t.keys.length ck, .bool t.over, .int .i64 t.limit, .slice at' t.tests.length ct]] w
      fun e w' => e = .returned (.int .i64 (envP H t)) ∧ Below w.heap.size w w' := by
  have hlm := hT.small
  unfold maxLen at hlm
  obtain ⟨W0, hW0⟩ : ∃ W0, W0 = w.alloc (.cells #[.int .i64 t.kind, .int .i64 t.mat, .int .i64 t.part, .slice an t.names.length cn, .slice ak t.keys.length ck, .bool t.over, .int .i64 t.limit, .slice at' t.tests.length ct] 39) := ⟨_, rfl⟩
  have HB0 := hid (show Below w.heap.size w W0 by rw [hW0]; exact (Below.refl _ _).alloc (Nat.le_refl _) _)
  have hH : W0.heap[w.heap.size]? = some (.cells #[.int .i64 t.kind, .int .i64 t.mat, .int .i64 t.part, .slice an t.names.length cn, .slice ak t.keys.length ck, .bool t.over, .int .i64 t.limit, .slice at' t.tests.length ct] 39) := by rw [hW0]; exact heap_alloc_new w _
  have HWE := hid hW0
  have g3 : W0.cell? ⟨w.heap.size, 3, none⟩ = some (.slice an t.names.length cn) := by simp [World.cell?, hH]
  have HM := hid (hM.next HB0.out)
  have HP := hid (hw.next HB0.out)
  have HT := hid (hT.next HB0.out)
  have HN := hid (show t.names.all partP = (t.names.drop 0).all partP from rfl)
  clear hM hw hT hH hW0
  go_enter Tryz.func153, Tryz.ntmps153
  go_wp2_with fail
  rw [← HWE.out]
  refine (has_any envW (by decide) W0 B N H HM.out).mono ?_
  rintro e u ⟨rfl, rfl⟩
  simp only
  by_cases hh : hasP H envW = true
  · rw [hh]
    have HE := hid (show envP H t = if t.names.all partP then 0 else 7 by unfold envP; simp [hh])
    clear hh
    go_wp2
    go_loopw [13] (fun v wr => ∃ i : Nat, i ≤ t.names.length ∧ v = .int .i64 i ∧ wr = u ∧ Hid (t.names.all partP = (t.names.drop i).all partP)) (fun v _ => t.names.length - (intOf v).toNat)
    case atStart => exact ⟨0, by omega, rfl, rfl, HN⟩
    case round =>
      obtain ⟨i, hi, rfl, rfl, hN⟩ := hrel
      by_cases hlt : i < t.names.length
      · have i1 : (i : Int) < (t.names.length : Int) := by omega
        have i0 : (0 : Int) ≤ (i : Int) := by omega
        obtain ⟨x, hx⟩ : ∃ x, t.names[i]? = some x := ⟨_, List.getElem?_eq_getElem hlt⟩
        have HS := hid (partAll_step hx)
        obtain ⟨a', c', hv, _, hr⟩ := HT.out
        simp only [Value.slice.injEq, true_and] at hv
        obtain ⟨rfl, rfl⟩ := hv
        obtain ⟨b, o, cs, rfl, hbl, _, _, hc, hP⟩ := hr i x hx
        have hcs : cs = [.string (S x)] := hP
        subst hcs
        have e0 : wr.cell? ⟨b, o + i, none⟩ = some (.string (S x)) := by simpa using hc 0 _ rfl
        clear hc hr hP hx
        go_wp2_with fail
        refine (isPart_any x wr HP.out).mono ?_
        rintro e u ⟨rfl, rfl⟩
        simp only
        by_cases hf : partP x = true
        · have HE2 := hid (show t.names.all partP = (t.names.drop (i + 1)).all partP by rw [hN.out, HS.out]; simp [hf])
          rw [hf]
          clear hf
          go_wp2
          case roundEnd => exact ⟨⟨i + 1, by omega, by go_num, trivial, HE2⟩, by simp [intOf]; omega⟩
        · have hf : partP x = false := by simpa using hf
          have HE2 := hid (show envP H t = 7 by rw [HE.out, hN.out, HS.out]; simp [hf])
          rw [hf]
          clear hf
          go_wp2
          go_ret
          exact ⟨ret_int HE2.out.symm, HB0.out⟩
      · have i1 : ¬ (i : Int) < (t.names.length : Int) := by omega
        have HE2 := hid (show envP H t = 0 by rw [HE.out, hN.out, List.drop_eq_nil_of_le (by omega)]; rfl)
        go_wp2
        go_ret
        exact ⟨ret_int HE2.out.symm, HB0.out⟩
  · have hh : hasP H envW = false := by simpa using hh
    rw [hh]
    have HE := hid (show envP H t = 8 by unfold envP; simp [hh])
    clear hh
    go_wp2
    go_ret
    exact ⟨ret_int HE.out.symm, HB0.out⟩
end Go.Proofs.YtkdngmhcfkfppaaGreatDoor

namespace Go.Proofs.YtkdngmhcfkfppaaGreatDoor
open Go.RowKit Go.Proofs Go.Maps

set_option maxHeartbeats 8000000 in
set_option maxRecDepth 100000 in
theorem rtest_any (n : Nat) : ∀ (t : Tst) (w : World) (an ak at' : Option Addr) (cn ck ct B N : Nat) (H : List (List UInt8)), ReqM w B N H → TabAt w 7 partT →
    TstM anyB n w t [.int .i64 t.kind, .int .i64 t.mat, .int .i64 t.part, .slice an t.names.length cn, .slice ak t.keys.length ck, .bool t.over, .int .i64 t.limit, .slice at' t.tests.length ct] →
    Calls Tryz.prog 134 #[.map (some B), .agg #[.int .i64 t.kind, .int .i64 t.mat, .int .i64 t.part, .slice an t.names.length cn, .slice ak t.keys.length ck, .bool t.over, .int .i64 t.limit, .slice at' t.tests.length ct]] w
      fun e w' => e = .returned (.int .i64 (tstA H n t)) ∧ Below w.heap.size w w' := by
  induction n with
  | zero => intro t w an ak at' cn ck ct B N H _ _ h; exact h.elim
  | succ n ih =>
    intro t w an ak at' cn ck ct B N H hM hw hT
    obtain ⟨_, _, _, _, _, _, m, hm, he, h1, h2, h3⟩ := tst_form hT
    simp only [List.cons.injEq, Value.slice.injEq, true_and, and_true] at he
    obtain ⟨⟨rfl, rfl⟩, ⟨rfl, rfl⟩, rfl, rfl⟩ := he
    obtain rfl : n = m := by omega
    clear hm hT
    have H1 := hid h1
    have H2 := hid h2
    have H3 : Hid (TstsM anyB n w (.slice at' t.tests.length ct) t.tests) := h3
    have HIH : Hid _ := ih
    clear h1 h2 h3 ih
    obtain ⟨W0, hW0⟩ : ∃ W0, W0 = w.alloc (.cells #[.int .i64 t.kind, .int .i64 t.mat, .int .i64 t.part, .slice an t.names.length cn, .slice ak t.keys.length ck, .bool t.over, .int .i64 t.limit, .slice at' t.tests.length ct] 39) := ⟨_, rfl⟩
    have HB0 := hid (show Below w.heap.size w W0 by rw [hW0]; exact (Below.refl _ _).alloc (Nat.le_refl _) _)
    have hH : W0.heap[w.heap.size]? = some (.cells #[.int .i64 t.kind, .int .i64 t.mat, .int .i64 t.part, .slice an t.names.length cn, .slice ak t.keys.length ck, .bool t.over, .int .i64 t.limit, .slice at' t.tests.length ct] 39) := by rw [hW0]; exact heap_alloc_new w _
    have HM := hid (hM.next HB0.out)
    have HP := hid (hw.next HB0.out)
    have HWE : Hid _ := hW0
    clear hW0 hM hw
    have g0 : W0.cell? ⟨w.heap.size, 0, none⟩ = some (.int .i64 t.kind) := by simp [World.cell?, hH]
    have g1 : W0.cell? ⟨w.heap.size, 1, none⟩ = some (.int .i64 t.mat) := by simp [World.cell?, hH]
    have g2 : W0.cell? ⟨w.heap.size, 2, none⟩ = some (.int .i64 t.part) := by simp [World.cell?, hH]
    have g3 : W0.cell? ⟨w.heap.size, 3, none⟩ = some (.slice an t.names.length cn) := by simp [World.cell?, hH]
    have g4 : W0.cell? ⟨w.heap.size, 4, none⟩ = some (.slice ak t.keys.length ck) := by simp [World.cell?, hH]
    have g5 : W0.cell? ⟨w.heap.size, 5, none⟩ = some (.bool t.over) := by simp [World.cell?, hH]
    have g6 : W0.cell? ⟨w.heap.size, 6, none⟩ = some (.int .i64 t.limit) := by simp [World.cell?, hH]
    have g7 : W0.cell? ⟨w.heap.size, 7, none⟩ = some (.slice at' t.tests.length ct) := by simp [World.cell?, hH]
    clear hH
    go_enter Tryz.func134, Tryz.ntmps134
    by_cases hk : t.kind = 8
    · have hkb : (t.kind == 8) = true := by simpa using hk
      have HK := hid hk
      clear hk
      go_wp2_with fail
      rw [← HWE.out]
      refine (checkEnv_any t W0 an ak at' cn ck ct B N H HM.out HP.out (H1.out.next HB0.out)).mono ?_
      rintro e u2 ⟨rfl, hb⟩
      simp only
      have HB := hid hb
      have HB2 : Hid (Below w.heap.size w u2) := HB0.out.trans (hb.mono HB0.out.size)
      clear hb
      obtain ⟨q, hq⟩ : ∃ q, q = envP H t := ⟨_, rfl⟩
      rw [← hq]
      by_cases hq0 : q = 0
      · have HR0 := hid (show tstA H (n + 1) t = if longP t.names ∨ longP t.keys then 1 else firstP (tstA H n) t.tests by
          show (if t.kind = 8 ∧ envP H t ≠ 0 then envP H t else _) = _
          rw [← hq, if_neg (by simp [hq0])])
        subst hq0
        have d3 : u2.cell? ⟨w.heap.size, 3, none⟩ = some (.slice an t.names.length cn) := wcell_next g3 HB.out
        have d4 : u2.cell? ⟨w.heap.size, 4, none⟩ = some (.slice ak t.keys.length ck) := wcell_next g4 HB.out
        have d7 : u2.cell? ⟨w.heap.size, 7, none⟩ = some (.slice at' t.tests.length ct) := wcell_next g7 HB.out
        have HMu := hid (HM.out.next HB.out)
        have HPu := hid (HP.out.next HB.out)
        clear hq hkb g0 g1 g2 g3 g4 g5 g6 g7 HWE HB0 HM HP HB
        have HT3 := hid (H1.out.next HB2.out)
        have HT4 := hid (H2.out.next HB2.out)
        have HH3 : Hid (TstsM anyB n u2 (.slice at' t.tests.length ct) t.tests) := RowM.imp H3.out (fun _ h => h) (Keeps.of_below HB2.out) fun _ _ h => TstM.imp (fun _ h => h) (Keeps.of_below HB2.out) _ _ _ h
        have hmx := HH3.out.small
        unfold maxLen at hmx
        clear H1 H2 H3
        go_wp2_with fail
        refine (isLong_any t.names an cn u2 HT3.out).mono ?_
        rintro e u ⟨rfl, hu⟩
        obtain rfl := hu.symm
        clear hu
        simp only
        by_cases hl1 : longP t.names = true
        · have HE := hid (show tstA H (n + 1) t = 1 by rw [HR0.out, if_pos (Or.inl hl1)])
          rw [hl1]
          clear hl1
          go_wp2
          go_ret
          exact ⟨ret_int HE.out.symm, HB2.out⟩
        · have hl1' : longP t.names = false := by simpa using hl1
          rw [hl1']
          go_wp2_with fail
          refine (isLong_any t.keys ak ck u2 HT4.out).mono ?_
          rintro e u ⟨rfl, hu⟩
          obtain rfl := hu.symm
          clear hu
          simp only
          by_cases hl2 : longP t.keys = true
          · have HE := hid (show tstA H (n + 1) t = 1 by rw [HR0.out, if_pos (Or.inr hl2)])
            rw [hl2]
            clear hl1 hl1' hl2
            go_wp2
            go_ret
            exact ⟨ret_int HE.out.symm, HB2.out⟩
          · have hl2' : longP t.keys = false := by simpa using hl2
            rw [hl2']
            have HR := hid (show tstA H (n + 1) t = firstP (tstA H n) t.tests by rw [HR0.out, if_neg (by simp [hl1', hl2'])])
            clear hl1 hl1' hl2 hl2' HT3 HT4 HR0
            go_wp2
            go_loopw [29] (fun v wr => ∃ i : Nat, i ≤ t.tests.length ∧ v = .int .i64 i ∧ Below w.heap.size w wr ∧ Below u2.heap.size u2 wr ∧ Hid (tstA H (n + 1) t = firstP (tstA H n) (t.tests.drop i))) (fun v _ => t.tests.length - (intOf v).toNat)
            case atStart => exact ⟨0, Nat.zero_le _, rfl, HB2.out, Below.refl _ _, HR⟩
            case round =>
              obtain ⟨i, hi, rfl, hBw, hBu, hN⟩ := hrel
              have HBw : Hid _ := hBw
              have HBu : Hid _ := hBu
              by_cases hlt : i < t.tests.length
              · have i1 : (i : Int) < (t.tests.length : Int) := by omega
                have i3 : (0 : Int) ≤ (i : Int) := by omega
                obtain ⟨x, hx⟩ : ∃ x, t.tests[i]? = some x := ⟨_, List.getElem?_eq_getElem hlt⟩
                obtain ⟨b, o, an', cn', ak', ck', at2, ct2, rfl, hbl, e0, e1, e2, e3, e4, e5, e6, e7, hT⟩ := tst_at (HH3.out.next hBu) hx
                have HN2 : Hid (tstA H (n + 1) t = if tstA H n x = 0 then firstP (tstA H n) (t.tests.drop (i + 1)) else tstA H n x) := by
                  unfold Hid
                  rw [hN.out, List.drop_eq_getElem_cons hlt]
                  rw [List.getElem?_eq_getElem hlt] at hx
                  cases hx
                  rfl
                have HT : Hid _ := hT
                have HMr := hid (HMu.out.next hBu)
                have HPr := hid (HPu.out.next hBu)
                clear hx hT hN hBw hBu
                have hal : Below wr.heap.size wr (wr.alloc (.cells #[.int .i64 x.kind, .int .i64 x.mat, .int .i64 x.part, .slice an' x.names.length cn', .slice ak' x.keys.length ck', .bool x.over, .int .i64 x.limit, .slice at2 x.tests.length ct2] 39)) := (Below.refl _ _).alloc (Nat.le_refl _) _
                have HAL : Hid _ := hal
                clear hal
                go_wp2_with fail
                refine (HIH.out x _ _ _ _ _ _ _ _ _ _ (HMr.out.next HAL.out) (HPr.out.next HAL.out) (HT.out.next HAL.out)).mono ?_
                rintro e w2 ⟨rfl, hb2⟩
                have hBr : Below wr.heap.size wr w2 := HAL.out.trans (hb2.mono HAL.out.size)
                have HB3 : Hid (Below w.heap.size w w2) := HBw.out.trans (hBr.mono HBw.out.size)
                have HB4 : Hid (Below u2.heap.size u2 w2) := HBu.out.trans (hBr.mono HBu.out.size)
                obtain ⟨y, hy⟩ : ∃ y, y = tstA H n x := ⟨_, rfl⟩
                rw [← hy]
                have HN3 : Hid (tstA H (n + 1) t = if y = 0 then firstP (tstA H n) (t.tests.drop (i + 1)) else y) := by unfold Hid; rw [HN2.out, ← hy]
                clear hy HN2 hb2 hBr e0 e1 e2 e3 e4 e5 e6 e7
                by_cases hy : y = 0
                · have HN4 : Hid (tstA H (n + 1) t = firstP (tstA H n) (t.tests.drop (i + 1))) := by unfold Hid; rw [HN3.out, if_pos hy]
                  subst hy
                  go_wp2
                  exact ⟨⟨i + 1, by omega, by go_num, HB3.out, HB4.out, HN4⟩, by simp [intOf]; omega⟩
                · have HN4 : Hid (tstA H (n + 1) t = y) := by unfold Hid; rw [HN3.out, if_neg hy]
                  go_wp2
                  go_ret
                  exact ⟨ret_int HN4.out.symm, HB3.out⟩
              · have i1 : ¬ (i : Int) < (t.tests.length : Int) := by omega
                have HE : Hid (tstA H (n + 1) t = 0) := by unfold Hid; rw [hN.out, List.drop_eq_nil_of_le (by omega)]; rfl
                go_wp2
                go_ret
                exact ⟨ret_int HE.out.symm, HBw.out⟩
      · have HR0 := hid (show tstA H (n + 1) t = q by
          show (if t.kind = 8 ∧ envP H t ≠ 0 then envP H t else _) = _
          rw [← hq, if_pos ⟨HK.out, hq0⟩])
        clear hq
        go_wp2
        go_ret
        exact ⟨ret_int HR0.out.symm, HB2.out⟩
    · have hkb : (t.kind == 8) = false := by simpa using hk
      have HR0 := hid (show tstA H (n + 1) t = if longP t.names ∨ longP t.keys then 1 else firstP (tstA H n) t.tests by
        show (if t.kind = 8 ∧ envP H t ≠ 0 then envP H t else _) = _
        rw [if_neg (by simp [hk])])
      have HB2 := HB0
      obtain ⟨u2, rfl⟩ : ∃ u2, u2 = W0 := ⟨_, rfl⟩
      have d3 := g3
      have d4 := g4
      have d7 := g7
      have HMu := HM
      have HPu := HP
      clear hk g1 g2 g3 g4 g5 g6 g7 HM HP
      have HT3 := hid (H1.out.next HB2.out)
      have HT4 := hid (H2.out.next HB2.out)
      have HH3 : Hid (TstsM anyB n u2 (.slice at' t.tests.length ct) t.tests) := RowM.imp H3.out (fun _ h => h) (Keeps.of_below HB2.out) fun _ _ h => TstM.imp (fun _ h => h) (Keeps.of_below HB2.out) _ _ _ h
      have hmx := HH3.out.small
      unfold maxLen at hmx
      clear H1 H2 H3
      go_wp2_with fail
      rw [← HWE.out]
      refine (isLong_any t.names an cn u2 HT3.out).mono ?_
      rintro e u ⟨rfl, hu⟩
      obtain rfl := hu.symm
      clear hu
      simp only
      by_cases hl1 : longP t.names = true
      · have HE := hid (show tstA H (n + 1) t = 1 by rw [HR0.out, if_pos (Or.inl hl1)])
        rw [hl1]
        clear hl1
        go_wp2
        go_ret
        exact ⟨ret_int HE.out.symm, HB2.out⟩
      · have hl1' : longP t.names = false := by simpa using hl1
        rw [hl1']
        go_wp2_with fail
        refine (isLong_any t.keys ak ck u2 HT4.out).mono ?_
        rintro e u ⟨rfl, hu⟩
        obtain rfl := hu.symm
        clear hu
        simp only
        by_cases hl2 : longP t.keys = true
        · have HE := hid (show tstA H (n + 1) t = 1 by rw [HR0.out, if_pos (Or.inr hl2)])
          rw [hl2]
          clear hl1 hl1' hl2
          go_wp2
          go_ret
          exact ⟨ret_int HE.out.symm, HB2.out⟩
        · have hl2' : longP t.keys = false := by simpa using hl2
          rw [hl2']
          have HR := hid (show tstA H (n + 1) t = firstP (tstA H n) t.tests by rw [HR0.out, if_neg (by simp [hl1', hl2'])])
          clear hl1 hl1' hl2 hl2' HT3 HT4 HR0
          go_wp2
          go_loopw [29] (fun v wr => ∃ i : Nat, i ≤ t.tests.length ∧ v = .int .i64 i ∧ Below w.heap.size w wr ∧ Below u2.heap.size u2 wr ∧ Hid (tstA H (n + 1) t = firstP (tstA H n) (t.tests.drop i))) (fun v _ => t.tests.length - (intOf v).toNat)
          case atStart => exact ⟨0, Nat.zero_le _, rfl, HB2.out, Below.refl _ _, HR⟩
          case round =>
            obtain ⟨i, hi, rfl, hBw, hBu, hN⟩ := hrel
            have HBw : Hid _ := hBw
            have HBu : Hid _ := hBu
            by_cases hlt : i < t.tests.length
            · have i1 : (i : Int) < (t.tests.length : Int) := by omega
              have i3 : (0 : Int) ≤ (i : Int) := by omega
              obtain ⟨x, hx⟩ : ∃ x, t.tests[i]? = some x := ⟨_, List.getElem?_eq_getElem hlt⟩
              obtain ⟨b, o, an', cn', ak', ck', at2, ct2, rfl, hbl, e0, e1, e2, e3, e4, e5, e6, e7, hT⟩ := tst_at (HH3.out.next hBu) hx
              have HN2 : Hid (tstA H (n + 1) t = if tstA H n x = 0 then firstP (tstA H n) (t.tests.drop (i + 1)) else tstA H n x) := by
                unfold Hid
                rw [hN.out, List.drop_eq_getElem_cons hlt]
                rw [List.getElem?_eq_getElem hlt] at hx
                cases hx
                rfl
              have HT : Hid _ := hT
              have HMr := hid (HMu.out.next hBu)
              have HPr := hid (HPu.out.next hBu)
              clear hx hT hN hBw hBu
              have hal : Below wr.heap.size wr (wr.alloc (.cells #[.int .i64 x.kind, .int .i64 x.mat, .int .i64 x.part, .slice an' x.names.length cn', .slice ak' x.keys.length ck', .bool x.over, .int .i64 x.limit, .slice at2 x.tests.length ct2] 39)) := (Below.refl _ _).alloc (Nat.le_refl _) _
              have HAL : Hid _ := hal
              clear hal
              go_wp2_with fail
              refine (HIH.out x _ _ _ _ _ _ _ _ _ _ (HMr.out.next HAL.out) (HPr.out.next HAL.out) (HT.out.next HAL.out)).mono ?_
              rintro e w2 ⟨rfl, hb2⟩
              have hBr : Below wr.heap.size wr w2 := HAL.out.trans (hb2.mono HAL.out.size)
              have HB3 : Hid (Below w.heap.size w w2) := HBw.out.trans (hBr.mono HBw.out.size)
              have HB4 : Hid (Below u2.heap.size u2 w2) := HBu.out.trans (hBr.mono HBu.out.size)
              obtain ⟨y, hy⟩ : ∃ y, y = tstA H n x := ⟨_, rfl⟩
              rw [← hy]
              have HN3 : Hid (tstA H (n + 1) t = if y = 0 then firstP (tstA H n) (t.tests.drop (i + 1)) else y) := by unfold Hid; rw [HN2.out, ← hy]
              clear hy HN2 hb2 hBr e0 e1 e2 e3 e4 e5 e6 e7
              by_cases hy : y = 0
              · have HN4 : Hid (tstA H (n + 1) t = firstP (tstA H n) (t.tests.drop (i + 1))) := by unfold Hid; rw [HN3.out, if_pos hy]
                subst hy
                go_wp2
                exact ⟨⟨i + 1, by omega, by go_num, HB3.out, HB4.out, HN4⟩, by simp [intOf]; omega⟩
              · have HN4 : Hid (tstA H (n + 1) t = y) := by unfold Hid; rw [HN3.out, if_neg hy]
                go_wp2
                go_ret
                exact ⟨ret_int HN4.out.symm, HB3.out⟩
            · have i1 : ¬ (i : Int) < (t.tests.length : Int) := by omega
              have HE : Hid (tstA H (n + 1) t = 0) := by unfold Hid; rw [hN.out, List.drop_eq_nil_of_le (by omega)]; rfl
              go_wp2
              go_ret
              exact ⟨ret_int HE.out.symm, HBw.out⟩
end Go.Proofs.YtkdngmhcfkfppaaGreatDoor

namespace Go.Proofs.YtkdngmhcfkfppaaGreatDoor
open Go.RowKit Go.Proofs Go.Maps

/-- What the walks of rule ask of memory: what is required, and the tables. -/
def RulW (w : World) (B N : Nat) (H : List (List UInt8)) : Prop := ReqM w B N H ∧ TabAt w 7 partT ∧ TabAt w 1 needT ∧ FlagsAt w
theorem RulW.next {w w' : World} {B N : Nat} {H : List (List UInt8)} (h : RulW w B N H) (hb : Below w.heap.size w w') : RulW w' B N H := ⟨h.1.next hb, h.2.1.next hb, h.2.2.1.next hb, h.2.2.2.next hb⟩
/-- What a script that may be is to the walks: its kinds are kinds, a text stands where one is read. -/
def PutC : Nat → Cmd → Prop
  | 0, _ => True
  | n + 1, c => (0 ≤ c.kind ∧ c.kind ≤ 10) ∧ (c.kind = 5 ∨ c.kind = 6 → c.texts ≠ []) ∧ (c.kind = 6 → (c.texts.getD 0 []).length ≤ maxLen) ∧ (c.kind = 2 → (∀ x ∈ c.thn, PutC n x) ∧ ∀ x ∈ c.els, PutC n x)

/-- The contract of checkCommand, with so much fuel. -/
def RChk (n : Nat) : Prop := ∀ (c : Cmd) (w : World) (B N : Nat) (H : List (List UInt8)) (ax an ak at' aa ae : Option Addr) (cx cn ck ct ca ce : Nat), PutC n c → RulW w B N H → CmdM anyB n w c [.int .i64 c.kind, .slice ax c.texts.length cx, .int .i64 c.test.kind, .int .i64 c.test.mat, .int .i64 c.test.part, .slice an c.test.names.length cn, .slice ak c.test.keys.length ck, .bool c.test.over, .int .i64 c.test.limit, .slice at' c.test.tests.length ct, .slice aa c.thn.length ca, .slice ae c.els.length ce] →
    Calls Tryz.prog 73 #[.map (some B), .agg #[.int .i64 c.kind, .slice ax c.texts.length cx, .int .i64 c.test.kind, .int .i64 c.test.mat, .int .i64 c.test.part, .slice an c.test.names.length cn, .slice ak c.test.keys.length ck, .bool c.test.over, .int .i64 c.test.limit, .slice at' c.test.tests.length ct, .slice aa c.thn.length ca, .slice ae c.els.length ce]] w fun e w' => e = .returned (.int .i64 (cmdA H n c)) ∧ Below w.heap.size w w'

set_option maxHeartbeats 8000000 in
set_option maxRecDepth 100000 in
theorem rcmds_of (n : Nat) (ih : RChk n) (l : List Cmd) (w : World) (B N : Nat) (H : List (List UInt8)) (a : Option Addr) (k : Nat) (hl : ∀ x ∈ l, PutC n x) (hw : RulW w B N H) (h : CmdsM anyB n w (.slice a l.length k) l) :
    Calls Tryz.prog 42 #[.map (some B), .slice a l.length k] w fun e w' => e = .returned (.int .i64 (firstP (cmdA H n) l)) ∧ Below w.heap.size w w' := by
  have H3 : Hid (CmdsM anyB n w (.slice a l.length k) l) := h
  have HIH : Hid (RChk n) := ih
  have HW : Hid (RulW w B N H) := hw
  have hmx := h.small
  unfold maxLen at hmx
  have HLL := hid hl
  clear h ih hw hl
  have HR : Hid (firstP (cmdA H n) l = firstP (cmdA H n) (l.drop 0)) := rfl
  go_enter Tryz.func42, Tryz.ntmps42
  go_wp2
  go_loopw [10] (fun v wr => ∃ i : Nat, i ≤ l.length ∧ v = .int .i64 i ∧ Below w.heap.size w wr ∧ Hid (firstP (cmdA H n) l = firstP (cmdA H n) (l.drop i))) (fun v _ => l.length - (intOf v).toNat)
  case atStart => exact ⟨0, Nat.zero_le _, rfl, Below.refl _ _, HR⟩
  case round =>
    obtain ⟨i, hi, rfl, hBw, hN⟩ := hrel
    have HBw : Hid _ := hBw
    by_cases hlt : i < l.length
    · have i1 : (i : Int) < (l.length : Int) := by omega
      have i3 : (0 : Int) ≤ (i : Int) := by omega
      obtain ⟨x, hx⟩ : ∃ x, l[i]? = some x := ⟨_, List.getElem?_eq_getElem hlt⟩
      obtain ⟨b, o, ax, cx, an, cn, ak, ck, at', ct, aa, ca, ae, ce, rfl, hbl, e0, e1, e2, e3, e4, e5, e6, e7, e8, e9, e10, e11, hT⟩ := cmd_at (H3.out.next hBw) hx
      have HN2 : Hid (firstP (cmdA H n) l = if cmdA H n x = 0 then firstP (cmdA H n) (l.drop (i + 1)) else cmdA H n x) := by
        unfold Hid
        rw [hN.out, List.drop_eq_getElem_cons hlt]
        rw [List.getElem?_eq_getElem hlt] at hx
        cases hx
        rfl
      have HQ := hid (HLL.out x (List.mem_of_getElem? hx))
      have HT : Hid _ := hT
      have HWr : Hid (RulW wr B N H) := HW.out.next hBw
      have hal : Below wr.heap.size wr (wr.alloc (.cells #[.int .i64 x.kind, .slice ax x.texts.length cx, .int .i64 x.test.kind, .int .i64 x.test.mat, .int .i64 x.test.part, .slice an x.test.names.length cn, .slice ak x.test.keys.length ck, .bool x.test.over, .int .i64 x.test.limit, .slice at' x.test.tests.length ct, .slice aa x.thn.length ca, .slice ae x.els.length ce] 65)) := (Below.refl _ _).alloc (Nat.le_refl _) _
      have HAL : Hid _ := hal
      clear hx hT hN hBw hal
      go_wp2_with fail
      refine (HIH.out x _ _ _ _ _ _ _ _ _ _ _ _ _ _ _ _ HQ.out (HWr.out.next HAL.out) (HT.out.next HAL.out)).mono ?_
      rintro e w2 ⟨rfl, hb2⟩
      have hBr : Below wr.heap.size wr w2 := HAL.out.trans (hb2.mono HAL.out.size)
      have HB3 : Hid (Below w.heap.size w w2) := HBw.out.trans (hBr.mono HBw.out.size)
      obtain ⟨y, hy⟩ : ∃ y, y = cmdA H n x := ⟨_, rfl⟩
      rw [← hy]
      have HN3 : Hid (firstP (cmdA H n) l = if y = 0 then firstP (cmdA H n) (l.drop (i + 1)) else y) := by unfold Hid; rw [HN2.out, ← hy]
      clear hy HN2 hb2 hBr e0 e1 e2 e3 e4 e5 e6 e7 e8 e9 e10 e11
      by_cases hy : y = 0
      · have HN4 : Hid (firstP (cmdA H n) l = firstP (cmdA H n) (l.drop (i + 1))) := by unfold Hid; rw [HN3.out, if_pos hy]
        subst hy
        go_wp2
        exact ⟨⟨i + 1, by omega, by go_num, HB3.out, HN4⟩, by simp [intOf]; omega⟩
      · have HN4 : Hid (firstP (cmdA H n) l = y) := by unfold Hid; rw [HN3.out, if_neg hy]
        go_wp2
        go_ret
        exact ⟨ret_int HN4.out.symm, HB3.out⟩
    · have i1 : ¬ (i : Int) < (l.length : Int) := by omega
      have HE : Hid (firstP (cmdA H n) l = 0) := by unfold Hid; rw [hN.out, List.drop_eq_nil_of_le (by omega)]; rfl
      go_wp2
      go_ret
      exact ⟨ret_int HE.out.symm, HBw.out⟩

set_option maxHeartbeats 8000000 in
set_option maxRecDepth 100000 in
theorem rif_of (n : Nat) (ih : RChk n) (c : Cmd) (w : World) (B N : Nat) (H : List (List UInt8)) (ax an ak at' aa ae : Option Addr) (cx cn ck ct ca ce : Nat) (hl1 : ∀ x ∈ c.thn, PutC n x) (hl2 : ∀ x ∈ c.els, PutC n x) (hw : RulW w B N H)
    (h2 : TstM anyB n w c.test [.int .i64 c.test.kind, .int .i64 c.test.mat, .int .i64 c.test.part, .slice an c.test.names.length cn, .slice ak c.test.keys.length ck, .bool c.test.over, .int .i64 c.test.limit, .slice at' c.test.tests.length ct])
    (h3 : CmdsM anyB n w (.slice aa c.thn.length ca) c.thn) (h4 : CmdsM anyB n w (.slice ae c.els.length ce) c.els) :
    Calls Tryz.prog 105 #[.map (some B), .agg #[.int .i64 c.kind, .slice ax c.texts.length cx, .int .i64 c.test.kind, .int .i64 c.test.mat, .int .i64 c.test.part, .slice an c.test.names.length cn, .slice ak c.test.keys.length ck, .bool c.test.over, .int .i64 c.test.limit, .slice at' c.test.tests.length ct, .slice aa c.thn.length ca, .slice ae c.els.length ce]] w fun e w' => e = .returned (.int .i64 (if tstA H n c.test ≠ 0 then tstA H n c.test else if firstP (cmdA H n) c.thn ≠ 0 then firstP (cmdA H n) c.thn else firstP (cmdA H n) c.els)) ∧ Below w.heap.size w w' := by
  have H2 := hid h2
  have H3 := hid h3
  have H4 := hid h4
  have HIH := hid ih
  have HL1 := hid hl1
  have HL2 := hid hl2
  obtain ⟨W0, hW0⟩ : ∃ W0, W0 = w.alloc (.cells #[.int .i64 c.kind, .slice ax c.texts.length cx, .int .i64 c.test.kind, .int .i64 c.test.mat, .int .i64 c.test.part, .slice an c.test.names.length cn, .slice ak c.test.keys.length ck, .bool c.test.over, .int .i64 c.test.limit, .slice at' c.test.tests.length ct, .slice aa c.thn.length ca, .slice ae c.els.length ce] 65) := ⟨_, rfl⟩
  have HB0 := hid (show Below w.heap.size w W0 by rw [hW0]; exact (Below.refl _ _).alloc (Nat.le_refl _) _)
  have hH : W0.heap[w.heap.size]? = some (.cells #[.int .i64 c.kind, .slice ax c.texts.length cx, .int .i64 c.test.kind, .int .i64 c.test.mat, .int .i64 c.test.part, .slice an c.test.names.length cn, .slice ak c.test.keys.length ck, .bool c.test.over, .int .i64 c.test.limit, .slice at' c.test.tests.length ct, .slice aa c.thn.length ca, .slice ae c.els.length ce] 65) := by rw [hW0]; exact heap_alloc_new w _
  have HWE := hid hW0
  have HW := hid (hw.next HB0.out)
  have g10 : W0.cell? ⟨w.heap.size, 10, none⟩ = some (.slice aa c.thn.length ca) := by simp [World.cell?, hH]
  have g11 : W0.cell? ⟨w.heap.size, 11, none⟩ = some (.slice ae c.els.length ce) := by simp [World.cell?, hH]
  obtain ⟨r, hr⟩ : ∃ r, r = (if tstA H n c.test ≠ 0 then tstA H n c.test else if firstP (cmdA H n) c.thn ≠ 0 then firstP (cmdA H n) c.thn else firstP (cmdA H n) c.els) := ⟨_, rfl⟩
  rw [← hr]
  have HR := hid hr
  clear h2 h3 h4 ih hl1 hl2 hH hW0 hw hr
  go_enter Tryz.func105, Tryz.ntmps105
  go_wp2_with fail
  rw [← HWE.out]
  refine (rtest_any n c.test W0 an ak at' cn ck ct B N H HW.out.1 HW.out.2.1 (TstM.imp (fun _ h => h) (Keeps.of_below HB0.out) _ _ _ H2.out)).mono ?_
  rintro e w3 ⟨rfl, hb3⟩
  simp only
  have HW3 := hid (HW.out.next hb3)
  have HB3 : Hid (Below w.heap.size w w3) := HB0.out.trans (hb3.mono HB0.out.size)
  have k10 := wcell_next g10 hb3
  have k11 := wcell_next g11 hb3
  clear HWE g10 g11 hb3 HW
  obtain ⟨y, hy⟩ : ∃ y, y = tstA H n c.test := ⟨_, rfl⟩
  rw [← hy]
  rw [← hy] at HR
  clear hy
  by_cases hy : y = 0
  · rw [if_neg (by simpa using hy)] at HR
    subst hy
    go_wp2_with fail
    refine (rcmds_of n HIH.out c.thn w3 B N H aa ca HL1.out HW3.out (RowM.imp H3.out (fun _ h => h) (Keeps.of_below HB3.out) fun _ _ h => CmdM.imp (fun _ h => h) (Keeps.of_below HB3.out) _ _ _ h)).mono ?_
    rintro e w4 ⟨rfl, hb4⟩
    simp only
    have HW4 := hid (HW3.out.next hb4)
    have HB4 : Hid (Below w.heap.size w w4) := HB3.out.trans (hb4.mono HB3.out.size)
    have m11 := wcell_next k11 hb4
    clear k10 k11 hb4
    obtain ⟨z, hz⟩ : ∃ z, z = firstP (cmdA H n) c.thn := ⟨_, rfl⟩
    rw [← hz]
    rw [← hz] at HR
    clear hz
    by_cases hz : z = 0
    · rw [if_neg (by simpa using hz)] at HR
      subst hz
      go_wp2_with fail
      refine (rcmds_of n HIH.out c.els w4 B N H ae ce HL2.out HW4.out (RowM.imp H4.out (fun _ h => h) (Keeps.of_below HB4.out) fun _ _ h => CmdM.imp (fun _ h => h) (Keeps.of_below HB4.out) _ _ _ h)).mono ?_
      rintro e w5 ⟨rfl, hb5⟩
      simp only
      have HB5 : Hid (Below w.heap.size w w5) := HB4.out.trans (hb5.mono HB4.out.size)
      go_wp2
      go_ret
      exact ⟨ret_int HR.out.symm, HB5.out⟩
    · rw [if_pos (by simpa using hz)] at HR
      go_wp2
      go_ret
      exact ⟨ret_int HR.out.symm, HB4.out⟩
  · rw [if_pos (by simpa using hy)] at HR
    go_wp2
    go_ret
    exact ⟨ret_int HR.out.symm, HB3.out⟩
end Go.Proofs.YtkdngmhcfkfppaaGreatDoor

namespace Go.Proofs.YtkdngmhcfkfppaaGreatDoor
open Go.RowKit Go.Proofs Go.Maps

theorem txts_first {w : World} {a : Option Addr} {c : Nat} {l : List (List UInt8)} (h : TxtsM anyB w (.slice a l.length c) l) (h0 : l ≠ []) :
    ∃ b o, a = some ⟨b, o, none⟩ ∧ w.cell? ⟨b, o, none⟩ = some (.string (S (l.getD 0 []))) := by
  cases l with
  | nil => exact absurd rfl h0
  | cons x r =>
    obtain ⟨a', c', hv, _, hr⟩ := h
    simp only [Value.slice.injEq, true_and] at hv
    obtain ⟨rfl, rfl⟩ := hv
    obtain ⟨b, o, cs, rfl, hbl, _, _, hc, hP⟩ := hr 0 x rfl
    have hcs : cs = [.string (S x)] := hP
    subst hcs
    exact ⟨b, o, rfl, by simpa using hc 0 _ rfl⟩

set_option maxHeartbeats 3000000 in
set_option maxRecDepth 100000 in
theorem rcmd_any (n : Nat) : RChk n := by
  induction n with
  | zero => intro c w B N H ax an ak at' aa ae cx cn ck ct ca ce _ _ h; exact h.elim
  | succ n ih =>
    intro c w B N H ax an ak at' aa ae cx cn ck ct ca ce hput hw hC
    obtain ⟨_, _, _, _, _, _, _, _, _, _, _, _, m, hm, he, h1, h2, h3, h4⟩ := cmd_form hC
    simp only [List.cons.injEq, Value.slice.injEq, true_and, and_true] at he
    obtain ⟨⟨rfl, rfl⟩, ⟨rfl, rfl⟩, ⟨rfl, rfl⟩, ⟨rfl, rfl⟩, ⟨rfl, rfl⟩, rfl, rfl⟩ := he
    obtain rfl : n = m := by omega
    clear hm hC
    obtain ⟨⟨hk0, hk1⟩, hp5, hp6, hp2⟩ := hput
    have H1 := hid h1
    have H2 := hid h2
    have H3 := hid h3
    have H4 := hid h4
    have HIH := hid ih
    have HP5 := hid hp5
    have HP6 := hid hp6
    have HP2 := hid hp2
    have hmx := h1.small
    unfold maxLen at hmx
    clear h1 h2 h3 h4 ih hp5 hp6 hp2
    have HR := hid (show cmdA H (n + 1) c = (if hasP H (needP c.kind) = false then 8
      else if c.kind = 1 then 3
      else if c.kind = 5 then nameP (c.texts.getD 0 [])
      else if c.kind = 8 ∨ c.kind = 9 then (if flagsP c.texts = none then 7 else 0)
      else if c.kind = 6 then goalP (c.texts.getD 0 [])
      else if c.kind = 2 then
        (if tstA H n c.test ≠ 0 then tstA H n c.test
         else if firstP (cmdA H n) c.thn ≠ 0 then firstP (cmdA H n) c.thn
         else firstP (cmdA H n) c.els)
      else 0) from rfl)
    obtain ⟨r, hr⟩ : ∃ r, r = cmdA H (n + 1) c := ⟨_, rfl⟩
    rw [← hr]
    rw [← hr] at HR
    clear hr
    have HIF := hid (fun (hk : c.kind = 2) (w : World) (hw : RulW w B N H) => rif_of n HIH.out c w B N H ax an ak at' aa ae cx cn ck ct ca ce (HP2.out hk).1 (HP2.out hk).2 hw)
    obtain ⟨kd, hkd⟩ : ∃ kd, kd = c.kind := ⟨_, rfl⟩
    rw [← hkd] at HR HP5 HP6 HIF hk0 hk1 ⊢
    clear hkd HP2 HIH
    obtain ⟨W0, hW0⟩ : ∃ W0, W0 = w.alloc (.cells #[.int .i64 kd, .slice ax c.texts.length cx, .int .i64 c.test.kind, .int .i64 c.test.mat, .int .i64 c.test.part, .slice an c.test.names.length cn, .slice ak c.test.keys.length ck, .bool c.test.over, .int .i64 c.test.limit, .slice at' c.test.tests.length ct, .slice aa c.thn.length ca, .slice ae c.els.length ce] 65) := ⟨_, rfl⟩
    have HB0 := hid (show Below w.heap.size w W0 by rw [hW0]; exact (Below.refl _ _).alloc (Nat.le_refl _) _)
    have hH : W0.heap[w.heap.size]? = some (.cells #[.int .i64 kd, .slice ax c.texts.length cx, .int .i64 c.test.kind, .int .i64 c.test.mat, .int .i64 c.test.part, .slice an c.test.names.length cn, .slice ak c.test.keys.length ck, .bool c.test.over, .int .i64 c.test.limit, .slice at' c.test.tests.length ct, .slice aa c.thn.length ca, .slice ae c.els.length ce] 65) := by rw [hW0]; exact heap_alloc_new w _
    have HWE := hid hW0
    have HW := hid (hw.next HB0.out)
    clear hw hW0
    have g0 : W0.cell? ⟨w.heap.size, 0, none⟩ = some (.int .i64 kd) := by simp [World.cell?, hH]
    have g1 : W0.cell? ⟨w.heap.size, 1, none⟩ = some (.slice ax c.texts.length cx) := by simp [World.cell?, hH]
    have g2 : W0.cell? ⟨w.heap.size, 2, none⟩ = some (.int .i64 c.test.kind) := by simp [World.cell?, hH]
    have g3 : W0.cell? ⟨w.heap.size, 3, none⟩ = some (.int .i64 c.test.mat) := by simp [World.cell?, hH]
    have g4 : W0.cell? ⟨w.heap.size, 4, none⟩ = some (.int .i64 c.test.part) := by simp [World.cell?, hH]
    have g5 : W0.cell? ⟨w.heap.size, 5, none⟩ = some (.slice an c.test.names.length cn) := by simp [World.cell?, hH]
    have g6 : W0.cell? ⟨w.heap.size, 6, none⟩ = some (.slice ak c.test.keys.length ck) := by simp [World.cell?, hH]
    have g7 : W0.cell? ⟨w.heap.size, 7, none⟩ = some (.bool c.test.over) := by simp [World.cell?, hH]
    have g8 : W0.cell? ⟨w.heap.size, 8, none⟩ = some (.int .i64 c.test.limit) := by simp [World.cell?, hH]
    have g9 : W0.cell? ⟨w.heap.size, 9, none⟩ = some (.slice at' c.test.tests.length ct) := by simp [World.cell?, hH]
    have g10 : W0.cell? ⟨w.heap.size, 10, none⟩ = some (.slice aa c.thn.length ca) := by simp [World.cell?, hH]
    have g11 : W0.cell? ⟨w.heap.size, 11, none⟩ = some (.slice ae c.els.length ce) := by simp [World.cell?, hH]
    clear hH
    go_enter Tryz.func73, Tryz.ntmps73
    have q := HW.out.2.2.1 kd.toNat (needP kd) (by
      have hkk : kd = 0 ∨ kd = 1 ∨ kd = 2 ∨ kd = 3 ∨ kd = 4 ∨ kd = 5 ∨ kd = 6 ∨ kd = 7 ∨ kd = 8 ∨ kd = 9 ∨ kd = 10 := by omega
      rcases hkk with rfl | rfl | rfl | rfl | rfl | rfl | rfl | rfl | rfl | rfl | rfl <;> rfl)
    have q2 := q
    rw [HWE.out] at q2
    go_wp2_with fail
    rw [← HWE.out]
    refine (has_any (needP kd) ?hl W0 B N H HW.out.1).mono ?_
    case hl => unfold needP; split <;> (try split) <;> (try split) <;> decide
    rintro e u ⟨rfl, hu⟩
    obtain rfl := hu.symm
    clear hu q q2 HWE
    simp only
    by_cases hh : hasP H (needP kd) = true
    · rw [if_neg (by rw [hh]; simp)] at HR
      rw [hh]
      clear hh
      have hkk : kd = 0 ∨ kd = 1 ∨ kd = 2 ∨ kd = 3 ∨ kd = 4 ∨ kd = 5 ∨ kd = 6 ∨ kd = 7 ∨ kd = 8 ∨ kd = 9 ∨ kd = 10 := by omega
      clear hk0 hk1
      rcases hkk with rfl | rfl | rfl | rfl | rfl | rfl | rfl | rfl | rfl | rfl | rfl
      · have HE := hid (show r = 0 by rw [HR.out]; rfl)
        clear HR
        go_wp2
        go_ret
        exact ⟨ret_int HE.out.symm, HB0.out⟩
      · have HE := hid (show r = 3 by rw [HR.out]; rfl)
        clear HR
        go_wp2
        go_ret
        exact ⟨ret_int HE.out.symm, HB0.out⟩
      · have HE := hid (show r = if tstA H n c.test ≠ 0 then tstA H n c.test else if firstP (cmdA H n) c.thn ≠ 0 then firstP (cmdA H n) c.thn else firstP (cmdA H n) c.els by rw [HR.out]; rfl)
        clear HR
        have HIF2 := hid (HIF.out rfl)
        clear HIF
        go_wp2_with fail
        refine (HIF2.out W0 HW.out (TstM.imp (fun _ h => h) (Keeps.of_below HB0.out) _ _ _ H2.out) (RowM.imp H3.out (fun _ h => h) (Keeps.of_below HB0.out) fun _ _ h => CmdM.imp (fun _ h => h) (Keeps.of_below HB0.out) _ _ _ h) (RowM.imp H4.out (fun _ h => h) (Keeps.of_below HB0.out) fun _ _ h => CmdM.imp (fun _ h => h) (Keeps.of_below HB0.out) _ _ _ h)).mono ?_
        rintro e u ⟨rfl, hb⟩
        simp only
        have HB2 := hid (HB0.out.trans (hb.mono HB0.out.size))
        clear hb
        rw [← HE.out]
        go_wp2
        go_ret
        exact ⟨rfl, HB2.out⟩
      · have HE := hid (show r = 0 by rw [HR.out]; rfl)
        clear HR
        go_wp2
        go_ret
        exact ⟨ret_int HE.out.symm, HB0.out⟩
      · have HE := hid (show r = 0 by rw [HR.out]; rfl)
        clear HR
        go_wp2
        go_ret
        exact ⟨ret_int HE.out.symm, HB0.out⟩
      · have HE := hid (show r = nameP (c.texts.getD 0 []) by rw [HR.out]; rfl)
        clear HR
        obtain ⟨b, o, rfl, e0⟩ := txts_first (H1.out.next HB0.out) (HP5.out (by decide))
        have HZ := hid (HP6.out)
        clear HP6 HIF
        obtain ⟨x, hx⟩ : ∃ x, x = c.texts.getD 0 [] := ⟨_, rfl⟩
        rw [← hx] at e0 HE HZ
        clear hx
        have hpos : 0 < c.texts.length := List.length_pos_iff.2 (HP5.out (by decide))
        have j1 : (0 : Int) < (c.texts.length : Int) := by omega
        go_wp2_with fail
        refine (rname_any (S x) W0).mono ?_
        rintro e u ⟨rfl, hu⟩
        obtain rfl := hu.symm
        clear hu
        rw [list_S]
        simp only
        go_wp2
        go_ret
        exact ⟨ret_int HE.out.symm, HB0.out⟩
      · have HE := hid (show r = goalP (c.texts.getD 0 []) by rw [HR.out]; rfl)
        clear HR
        obtain ⟨b, o, rfl, e0⟩ := txts_first (H1.out.next HB0.out) (HP5.out (by decide))
        have HZ := hid (HP6.out)
        clear HP6 HIF
        obtain ⟨x, hx⟩ : ∃ x, x = c.texts.getD 0 [] := ⟨_, rfl⟩
        rw [← hx] at e0 HE HZ
        clear hx
        have hpos : 0 < c.texts.length := List.length_pos_iff.2 (HP5.out (by decide))
        have HZ2 := hid (HZ.out rfl)
        clear HZ
        have j1 : (0 : Int) < (c.texts.length : Int) := by omega
        go_wp2_with fail
        refine (goal_any x W0 (HZ2.out)).mono ?_
        rintro e u ⟨rfl, hb⟩
        simp only
        have HB2 := hid (HB0.out.trans (hb.mono HB0.out.size))
        clear hb
        go_wp2
        go_ret
        exact ⟨ret_int HE.out.symm, HB2.out⟩
      · have HE := hid (show r = 0 by rw [HR.out]; rfl)
        clear HR
        go_wp2
        go_ret
        exact ⟨ret_int HE.out.symm, HB0.out⟩
      · have HE := hid (show r = if flagsP c.texts = none then 7 else 0 by rw [HR.out]; rfl)
        clear HR
        go_wp2_with fail
        refine (flags_any c.texts ax cx W0 HW.out.2.2.2 (H1.out.next HB0.out)).mono ?_
        rintro e u ⟨rfl, hb⟩
        simp only
        have HB2 := hid (HB0.out.trans (hb.mono HB0.out.size))
        clear hb
        cases hf : flagsP c.texts with
        | none =>
          have HE2 := hid (show r = 7 by rw [HE.out, hf]; rfl)
          clear hf
          unfold flagsT
          simp only
          go_wp2
          go_ret
          exact ⟨ret_int HE2.out.symm, HB2.out⟩
        | some v =>
          have HE2 := hid (show r = 0 by rw [HE.out, hf]; rfl)
          clear hf
          unfold flagsT
          simp only
          go_wp2
          go_ret
          exact ⟨ret_int HE2.out.symm, HB2.out⟩
      · have HE := hid (show r = if flagsP c.texts = none then 7 else 0 by rw [HR.out]; rfl)
        clear HR
        go_wp2_with fail
        refine (flags_any c.texts ax cx W0 HW.out.2.2.2 (H1.out.next HB0.out)).mono ?_
        rintro e u ⟨rfl, hb⟩
        simp only
        have HB2 := hid (HB0.out.trans (hb.mono HB0.out.size))
        clear hb
        cases hf : flagsP c.texts with
        | none =>
          have HE2 := hid (show r = 7 by rw [HE.out, hf]; rfl)
          clear hf
          unfold flagsT
          simp only
          go_wp2
          go_ret
          exact ⟨ret_int HE2.out.symm, HB2.out⟩
        | some v =>
          have HE2 := hid (show r = 0 by rw [HE.out, hf]; rfl)
          clear hf
          unfold flagsT
          simp only
          go_wp2
          go_ret
          exact ⟨ret_int HE2.out.symm, HB2.out⟩
      · have HE := hid (show r = 0 by rw [HR.out]; rfl)
        clear HR
        go_wp2
        go_ret
        exact ⟨ret_int HE.out.symm, HB0.out⟩
    · have hh : hasP H (needP kd) = false := by simpa using hh
      rw [if_pos hh] at HR
      rw [hh]
      clear hh hk0 hk1
      go_wp2
      go_ret
      exact ⟨ret_int HR.out.symm, HB0.out⟩
end Go.Proofs.YtkdngmhcfkfppaaGreatDoor

namespace Go.Proofs.YtkdngmhcfkfppaaGreatDoor
open Go.RowKit Go.Proofs Go.Maps

/-- Where a script sends a letter on the text is no longer than any text. -/
def ShortC : Nat → Cmd → Prop
  | 0, _ => True
  | n + 1, c => (c.kind = 6 → (c.texts.getD 0 []).length ≤ maxLen) ∧ (∀ x ∈ c.thn, ShortC n x) ∧ ∀ x ∈ c.els, ShortC n x
theorem put_of : ∀ (n d : Nat) (c : Cmd), faultCmd n d c = 0 → ShortC n c → PutC n c := by
  intro n
  induction n with
  | zero => intro d c _ _; trivial
  | succ n ih =>
    intro d c h hs
    obtain ⟨hk, _, hf, h2⟩ := fault_cmd h
    obtain ⟨s1, s2, s3⟩ := hs
    refine ⟨⟨by omega, hk.2⟩, fun h5 => ?_, s1, fun hk2 => ?_⟩
    · unfold fitsC at hf
      intro ht
      rw [ht] at hf
      split at hf
      · cases hf
      · rcases h5 with h5 | h5 <;> simp [h5] at hf
    · obtain ⟨_, q2, q3⟩ := h2 hk2
      refine ⟨fun x hx => ih (d + 1) x (firstW_zero q2 x hx) (s2 x hx), fun x hx => ?_⟩
      cases he : elsifP c.els with
      | none =>
        rw [he] at q3
        exact ih (d + 1) x (firstW_zero q3 x hx) (s3 x hx)
      | some y =>
        rw [he] at q3
        have hy : c.els = [y] := by
          unfold elsifP at he
          split at he
          · split at he
            · cases he; assumption
            · cases he
          · cases he
        rw [hy] at hx
        have := List.mem_singleton.1 hx
        subst this
        exact ih d x q3 (s3 x (by rw [hy]; simp))
theorem sep_len (l : List (List UInt8)) : l.length ≤ (sepT (fun x => [strT x]) l).length := by
  cases l with
  | nil => exact Nat.le_refl _
  | cons x r =>
    have : ∀ r : List (List UInt8), r.length ≤ (r.flatMap fun y => [markT 44, strT y]).length := by
      intro r
      induction r with
      | nil => exact Nat.le_refl _
      | cons y r ih => simp only [List.flatMap_cons, List.length_append, List.length_cons, List.length_nil]; omega
    have := this r
    show r.length + 1 ≤ ([strT x] ++ r.flatMap fun y => [markT 44, strT y]).length
    simp only [List.length_append, List.length_cons, List.length_nil]
    omega
theorem list_len (l : List (List UInt8)) : l.length ≤ (listT l).length := by
  unfold listT
  split
  · exact Nat.le_refl _
  · have := sep_len l
    simp only [List.length_cons, List.length_append, List.length_nil]
    omega
theorem req_len (n : Nat) (c : Cmd) (hk : c.kind = 1) : c.texts.length ≤ (cmdT (n + 1) c).length := by
  unfold cmdT restT
  rw [if_neg (by rw [hk]; decide)]
  have := list_len c.texts
  split
  · omega
  · simp only [List.length_cons, List.length_append, List.length_nil]
    omega
theorem reqs_len (n : Nat) : ∀ l : List Cmd, (reqsP l).length ≤ (cmdsT (n + 1) l).length := by
  intro l
  induction l with
  | nil => exact Nat.le_refl _
  | cons c l ih =>
    unfold reqsP at ih ⊢
    unfold aheadP
    by_cases hk : c.kind = 1
    · rw [if_pos hk, List.take_succ_cons, List.flatMap_cons, List.length_append]
      have h1 := req_len n c hk
      have h2 : (cmdsT (n + 1) (c :: l)).length = (cmdT (n + 1) c).length + (cmdsT (n + 1) l).length := by simp [cmdsT]
      omega
    · rw [if_neg hk]; exact Nat.zero_le _
theorem ahead_le : ∀ l : List Cmd, aheadP l ≤ l.length := by
  intro l
  induction l with
  | nil => exact Nat.le_refl _
  | cons c l ih =>
    unfold aheadP
    split
    · rw [List.length_cons]; omega
    · exact Nat.zero_le _
/-- The tables of script and of rule lie there. -/
def Tabs (w : World) : Prop := WordsAt w ∧ TabAt w 0 extT ∧ TabAt w 7 partT ∧ TabAt w 1 needT ∧ FlagsAt w
theorem Tabs.next {w w' : World} (h : Tabs w) (hb : Below w.heap.size w w') : Tabs w' := ⟨h.1.next hb, h.2.1.next hb, h.2.2.1.next hb, h.2.2.2.1.next hb, h.2.2.2.2.next hb⟩

set_option maxHeartbeats 4000000 in
set_option maxRecDepth 100000 in
theorem rcheck_some (n : Nat) (l : List Cmd) (b o k : Nat) (w : World) (hw : Tabs w) (hk : l.length ≤ k) (hs : ∀ x ∈ l, ShortC (n + 1) x) (h : CmdsM anyB (n + 1) w (.slice (some ⟨b, o, none⟩) l.length k) l) :
    Calls Tryz.prog 26 #[.slice (some ⟨b, o, none⟩) l.length k] w fun e w' => e = .returned (.int .i64 (ruleM (n + 1) l)) ∧ Below w.heap.size w w' := by
  have HT := hid h
  have HW := hid hw
  have HS := hid hs
  have hmx := h.small
  unfold maxLen at hmx
  obtain ⟨L1, hL1⟩ : ∃ L1, L1 = l.take (aheadP l) := ⟨_, rfl⟩
  obtain ⟨L2, hL2⟩ : ∃ L2, L2 = l.drop (aheadP l) := ⟨_, rfl⟩
  have HA := hid (show aheadP l = L1.length by rw [hL1, List.length_take]; have := ahead_le l; omega)
  have hle : L1.length ≤ l.length := by have := ahead_le l; rw [← HA.out]; exact this
  have HL2 := hid (show L2.length = l.length - L1.length by rw [hL2, List.length_drop, HA.out])
  have HT1 := hid (show ∀ w', Below w.heap.size w w' → CmdsM anyB (n + 1) w' (.slice (some ⟨b, o, none⟩) L1.length k) L1 from fun w' hb => by
    have := RowM.takeR (CmdsM.next HT.out hb) L1.length k hle
    rw [← HA.out, ← hL1, HA.out] at this
    exact this)
  have HT2 := hid (show ∀ w', Below w.heap.size w w' → CmdsM anyB (n + 1) w' (.slice (some ⟨b, o + L1.length * 12, none⟩) L2.length (k - L1.length)) L2 from fun w' hb => by
    have := RowM.dropR (CmdsM.next HT.out hb) L1.length L2.length (k - L1.length) HL2.out
    rw [show l.drop L1.length = L2 by rw [hL2, HA.out]] at this
    exact this)
  have HR := hid (show ruleM (n + 1) l = if checkM (n + 1) l ≠ 0 then checkM (n + 1) l else if (L1.flatMap (·.texts)).all extP = false then 7 else firstP (cmdA (L1.flatMap (·.texts)) (n + 1)) L2 by unfold ruleM reqsP; rw [← hL1, ← hL2])
  have HLN := hid (show checkM (n + 1) l = 0 → (L1.flatMap (·.texts)).length ≤ 400 from fun hc => by
    have h1 := (checkM_ok hc).2
    have h2 := reqs_len n l
    unfold reqsP at h2
    rw [← hL1] at h2
    omega)
  have HPT := hid (show checkM (n + 1) l = 0 → ∀ x ∈ L2, PutC (n + 1) x from fun hc x hx => by
    have hm : x ∈ l := by rw [hL2] at hx; exact List.mem_of_mem_drop hx
    exact put_of (n + 1) 0 x ((checkM_ok hc).1 x hm) (HS.out x hm))
  clear h hw hs hL1 hL2
  go_enter Tryz.func26, Tryz.ntmps26
  go_wp2_with fail
  refine (scheck_any (n + 1) l (some ⟨b, o, none⟩) k w HW.out.1 HT.out).mono ?_
  rintro e w1 ⟨rfl, hb1⟩
  have HB1 := hid hb1
  obtain ⟨x, hx⟩ : ∃ x, x = checkM (n + 1) l := ⟨_, rfl⟩
  rw [← hx]
  rw [← hx] at HR HLN HPT
  clear hx hb1
  by_cases hx : x = 0
  · rw [if_neg (by simpa using hx)] at HR
    replace HLN := hid (HLN.out hx)
    replace HPT := hid (HPT.out hx)
    subst hx
    go_wp2_with fail
    refine (ahead_any (n + 1) l (some ⟨b, o, none⟩) k w1 (CmdsM.next HT.out HB1.out)).mono ?_
    rintro e w2 ⟨rfl, hb2⟩
    have HB2 := hid (HB1.out.trans (hb2.mono HB1.out.size))
    clear hb2
    rw [HA.out]
    have i0 : (0 : Int) ≤ (L1.length : Int) := by omega
    have i1 : (L1.length : Int) ≤ (k : Int) := by omega
    have i2 : (L1.length : Int) ≤ (l.length : Int) := by omega
    go_wp2_with fail
    refine (reqBy_any (n + 1) L1 (some ⟨b, o, none⟩) k w2 HLN.out (HW.out.2.1.next HB2.out) (HT1.out w2 HB2.out)).mono ?_
    intro e w3 hq
    unfold ReqdP at hq
    by_cases hall : (L1.flatMap (·.texts)).all extP = true
    · rw [if_pos hall] at hq
      rw [if_neg (by rw [hall]; simp)] at HR
      obtain ⟨⟨N, rfl, hM⟩, hb3⟩ := hq
      have HM := hid hM
      have HB3 := hid (HB2.out.trans (hb3.mono HB2.out.size))
      clear hall hM hb3
      go_wp2_with fail
      · rw [← HL2.out]
        have HT0 := hid (show CmdsM anyB (n + 1) w3 (.slice (some ⟨b, o, none⟩) L2.length 0) L2 by
          have : L2 = [] := List.length_eq_zero_iff.1 (by rw [HL2.out]; omega)
          subst this
          exact rowM_nil _ _ _ _ _ _)
        refine (rcmds_of (n + 1) (rcmd_any (n + 1)) L2 w3 w2.heap.size N (L1.flatMap (·.texts)) (some ⟨b, o, none⟩) 0 HPT.out ⟨HM.out, HW.out.2.2.1.next HB3.out, HW.out.2.2.2.1.next HB3.out, HW.out.2.2.2.2.next HB3.out⟩ HT0.out).mono ?_
        rintro e w4 ⟨rfl, hb4⟩
        simp only
        have HB4 := hid (HB3.out.trans (hb4.mono HB3.out.size))
        clear hb4
        go_wp2
        go_ret
        exact ⟨ret_int HR.out.symm, HB4.out⟩
      · rw [← HL2.out]
        refine (rcmds_of (n + 1) (rcmd_any (n + 1)) L2 w3 w2.heap.size N (L1.flatMap (·.texts)) (some ⟨b, o + L1.length * 12, none⟩) (k - L1.length) HPT.out ⟨HM.out, HW.out.2.2.1.next HB3.out, HW.out.2.2.2.1.next HB3.out, HW.out.2.2.2.2.next HB3.out⟩ (HT2.out w3 HB3.out)).mono ?_
        rintro e w4 ⟨rfl, hb4⟩
        simp only
        have HB4 := hid (HB3.out.trans (hb4.mono HB3.out.size))
        clear hb4
        go_wp2
        go_ret
        exact ⟨ret_int HR.out.symm, HB4.out⟩
    · rw [if_neg hall] at hq
      rw [if_pos (by simpa using hall)] at HR
      obtain ⟨rfl, hb3⟩ := hq
      have HB3 := hid (HB2.out.trans (hb3.mono HB2.out.size))
      clear hall hb3
      go_wp2
      go_ret
      exact ⟨ret_int HR.out.symm, HB3.out⟩
  · rw [if_pos (by simpa using hx)] at HR
    go_wp2
    go_ret
    exact ⟨ret_int HR.out.symm, HB1.out⟩

set_option maxHeartbeats 4000000 in
set_option maxRecDepth 100000 in
theorem rcheck_nil (n : Nat) (w : World) (hw : Tabs w) :
    Calls Tryz.prog 26 #[.slice none 0 0] w fun e w' => e = .returned (.int .i64 0) ∧ Below w.heap.size w w' := by
  have HW := hid hw
  have HT := hid (show ∀ w', CmdsM anyB n w' (.slice none ([] : List Cmd).length 0) [] from fun w' => rowM_nil _ _ _ _ _ _)
  clear hw
  go_enter Tryz.func26, Tryz.ntmps26
  go_wp2_with fail
  refine (scheck_any n [] none 0 w HW.out.1 (HT.out w)).mono ?_
  rintro e w1 ⟨rfl, hb1⟩
  have HB1 := hid hb1
  have HC := hid (show checkM n [] = 0 from rfl)
  rw [HC.out]
  clear hb1
  go_wp2_with fail
  refine (ahead_any n [] none 0 w1 (HT.out w1)).mono ?_
  rintro e w2 ⟨rfl, hb2⟩
  have HB2 := hid (HB1.out.trans (hb2.mono HB1.out.size))
  clear hb2
  have HA := hid (show aheadP ([] : List Cmd) = 0 from rfl)
  rw [HA.out]
  go_wp2_with fail
  refine (reqBy_any n [] none 0 w2 (by simp) (HW.out.2.1.next HB2.out) (HT.out w2)).mono ?_
  intro e w3 hq
  unfold ReqdP at hq
  rw [if_pos (show (([] : List Cmd).flatMap (·.texts)).all extP = true from rfl)] at hq
  obtain ⟨⟨N, rfl, hM⟩, hb3⟩ := hq
  have HM := hid hM
  have HB3 := hid (HB2.out.trans (hb3.mono HB2.out.size))
  clear hM hb3
  go_wp2_with fail
  refine (rcmds_of n (rcmd_any n) [] w3 w2.heap.size N [] none 0 (by intro x hx; cases hx) ⟨HM.out, HW.out.2.2.1.next HB3.out, HW.out.2.2.2.1.next HB3.out, HW.out.2.2.2.2.next HB3.out⟩ (HT.out w3)).mono ?_
  rintro e w4 ⟨rfl, hb4⟩
  have HB4 := hid (HB3.out.trans (hb4.mono HB3.out.size))
  have HZ := hid (show firstP (cmdA [] n) [] = 0 from rfl)
  rw [HZ.out]
  clear hb4
  go_wp2
  go_ret
  exact ⟨rfl, HB4.out⟩
theorem rcheck_any (n : Nat) (l : List Cmd) (a : Option Addr) (k : Nat) (w : World) (hw : Tabs w) (hk : l.length ≤ k) (hn : l = [] → a = none ∧ k = 0) (hs : ∀ x ∈ l, ShortC (n + 1) x) (h : CmdsM anyB (n + 1) w (.slice a l.length k) l) :
    Calls Tryz.prog 26 #[.slice a l.length k] w fun e w' => e = .returned (.int .i64 (ruleM (n + 1) l)) ∧ Below w.heap.size w w' := by
  cases l with
  | nil =>
    obtain ⟨rfl, rfl⟩ := hn rfl
    exact rcheck_nil n w hw
  | cons x r =>
    obtain ⟨a', c', hv, _, hr⟩ := h
    obtain ⟨b, o, _, ha, _⟩ := hr 0 x rfl
    have ha' : a = a' := by
      simp only [Value.slice.injEq, true_and] at hv
      exact hv.1
    subst ha'
    subst ha
    exact rcheck_some n (x :: r) b o k w hw hk hs ⟨_, c', hv, by assumption, hr⟩
theorem short_of {c : Cmd} (h : ∀ n, NiceC n c) : ∀ n, ShortC n c := by
  intro n
  have : ∀ (n : Nat) (c : Cmd), NiceC n c → ShortC n c := by
    intro n
    induction n with
    | zero => intro c _; trivial
    | succ n ih =>
      intro c h
      obtain ⟨_, _, _, k4, _, k6, k7⟩ := h
      refine ⟨fun hk => ?_, fun x hx => ih x (k6 x hx), fun x hx => ih x (k7 x hx)⟩
      have hg := k4 hk
      unfold goalP at hg
      by_cases hl : 2000 < (c.texts.getD 0 []).length
      · rw [if_neg (by unfold listM; rw [if_pos hl]; simp)] at hg
        cases hg
      · unfold maxLen; omega
  exact this n c (h n)
end Go.Proofs.YtkdngmhcfkfppaaGreatDoor
