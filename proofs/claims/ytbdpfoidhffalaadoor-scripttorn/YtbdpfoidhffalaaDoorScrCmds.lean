/-
  What script.checkCommand and script.checkCommands do: the walks.
-/
import Derived.Test.YtbdpfoidhffalaaDoorScrCmd
namespace Go.Proofs.YtbdpfoidhffalaaDoor
open Go.RowKit Go.Proofs

/-- The contract of checkCommand, with so much fuel. -/
def ChkC (n : Nat) : Prop := ∀ (c : Cmd) (d : Nat) (w : World) (ax an ak at' aa ae : Option Addr) (cx cn ck ct ca ce : Nat), d ≤ 7 → WordsAt w → CmdM anyB n w c [.int .i64 c.kind, .slice ax c.texts.length cx, .int .i64 c.test.kind, .int .i64 c.test.mat, .int .i64 c.test.part, .slice an c.test.names.length cn, .slice ak c.test.keys.length ck, .bool c.test.over, .int .i64 c.test.limit, .slice at' c.test.tests.length ct, .slice aa c.thn.length ca, .slice ae c.els.length ce] →
    Calls Tryd.prog 42 #[.agg #[.int .i64 c.kind, .slice ax c.texts.length cx, .int .i64 c.test.kind, .int .i64 c.test.mat, .int .i64 c.test.part, .slice an c.test.names.length cn, .slice ak c.test.keys.length ck, .bool c.test.over, .int .i64 c.test.limit, .slice at' c.test.tests.length ct, .slice aa c.thn.length ca, .slice ae c.els.length ce], .int .i64 d] w fun e w' => e = .returned (.int .i64 (faultCmd n d c)) ∧ Below w.heap.size w w'

set_option maxHeartbeats 8000000 in
set_option maxRecDepth 100000 in
theorem checkCommands_of (n : Nat) (ih : ChkC n) (l : List Cmd) (d : Nat) (w : World) (a : Option Addr) (k : Nat) (hd : d ≤ 7) (hw : WordsAt w) (h : CmdsM anyB n w (.slice a l.length k) l) :
    Calls Tryd.prog 25 #[.slice a l.length k, .int .i64 d] w fun e w' => e = .returned (.int .i64 (faultCmds n d l)) ∧ Below w.heap.size w w' := by
  have H3 : Hid (CmdsM anyB n w (.slice a l.length k) l) := h
  have HIH : Hid (ChkC n) := ih
  have HW : Hid (WordsAt w) := hw
  have hmx := h.small
  unfold maxLen at hmx
  clear h ih hw
  have HR : Hid (faultCmds n d l = firstP (faultCmd n d) (l.drop 0)) := rfl
  go_enter Tryd.func25, Tryd.ntmps25
  go_wp2
  go_loopw [10] (fun v wr => ∃ i : Nat, i ≤ l.length ∧ v = .int .i64 i ∧ Below w.heap.size w wr ∧ Hid (faultCmds n d l = firstP (faultCmd n d) (l.drop i))) (fun v _ => l.length - (intOf v).toNat)
  case atStart => exact ⟨0, Nat.zero_le _, rfl, Below.refl _ _, HR⟩
  case round =>
    obtain ⟨i, hi, rfl, hBw, hN⟩ := hrel
    have HBw : Hid _ := hBw
    by_cases hlt : i < l.length
    · have i1 : (i : Int) < (l.length : Int) := by omega
      have i3 : (0 : Int) ≤ (i : Int) := by omega
      obtain ⟨x, hx⟩ : ∃ x, l[i]? = some x := ⟨_, List.getElem?_eq_getElem hlt⟩
      obtain ⟨b, o, ax, cx, an, cn, ak, ck, at', ct, aa, ca, ae, ce, rfl, hbl, e0, e1, e2, e3, e4, e5, e6, e7, e8, e9, e10, e11, hT⟩ := cmd_at (H3.out.next hBw) hx
      have HN2 : Hid (faultCmds n d l = if faultCmd n d x = 0 then firstP (faultCmd n d) (l.drop (i + 1)) else faultCmd n d x) := by
        unfold Hid
        rw [hN.out, List.drop_eq_getElem_cons hlt]
        rw [List.getElem?_eq_getElem hlt] at hx
        cases hx
        rfl
      have HT : Hid _ := hT
      have HWr : Hid (WordsAt wr) := HW.out.next hBw
      have hal : Below wr.heap.size wr (wr.alloc (.cells #[.int .i64 x.kind, .slice ax x.texts.length cx, .int .i64 x.test.kind, .int .i64 x.test.mat, .int .i64 x.test.part, .slice an x.test.names.length cn, .slice ak x.test.keys.length ck, .bool x.test.over, .int .i64 x.test.limit, .slice at' x.test.tests.length ct, .slice aa x.thn.length ca, .slice ae x.els.length ce] 47)) := (Below.refl _ _).alloc (Nat.le_refl _) _
      have HAL : Hid _ := hal
      clear hx hT hN hBw hal
      go_wp2_with fail
      refine (HIH.out x d _ _ _ _ _ _ _ _ _ _ _ _ _ hd (HWr.out.next HAL.out) (HT.out.next HAL.out)).mono ?_
      rintro e w2 ⟨rfl, hb2⟩
      have hBr : Below wr.heap.size wr w2 := HAL.out.trans (hb2.mono HAL.out.size)
      have HB3 : Hid (Below w.heap.size w w2) := HBw.out.trans (hBr.mono HBw.out.size)
      obtain ⟨y, hy⟩ : ∃ y, y = faultCmd n d x := ⟨_, rfl⟩
      rw [← hy]
      have HN3 : Hid (faultCmds n d l = if y = 0 then firstP (faultCmd n d) (l.drop (i + 1)) else y) := by unfold Hid; rw [HN2.out, ← hy]
      clear hy HN2 hb2 hBr e0 e1 e2 e3 e4 e5 e6 e7 e8 e9 e10 e11
      by_cases hy : y = 0
      · have HN4 : Hid (faultCmds n d l = firstP (faultCmd n d) (l.drop (i + 1))) := by unfold Hid; rw [HN3.out, if_pos hy]
        subst hy
        go_wp2
        exact ⟨⟨i + 1, by omega, by go_num, HB3.out, HN4⟩, by simp [intOf]; omega⟩
      · have HN4 : Hid (faultCmds n d l = y) := by unfold Hid; rw [HN3.out, if_neg hy]
        go_wp2
        go_ret
        exact ⟨ret_int HN4.out.symm, HB3.out⟩
    · have i1 : ¬ (i : Int) < (l.length : Int) := by omega
      have HE : Hid (faultCmds n d l = 0) := by unfold Hid; rw [hN.out, List.drop_eq_nil_of_le (by omega)]; rfl
      go_wp2
      go_ret
      exact ⟨ret_int HE.out.symm, HBw.out⟩

set_option maxHeartbeats 8000000 in
set_option maxRecDepth 100000 in
theorem checkCommand_any (n : Nat) : ChkC n := by
  induction n with
  | zero => intro c d w ax an ak at' aa ae cx cn ck ct ca ce _ _ h; exact h.elim
  | succ n ih =>
    intro c d w ax an ak at' aa ae cx cn ck ct ca ce hd hw hC
    obtain ⟨_, _, _, _, _, _, _, _, _, _, _, _, m, hm, he, h1, h2, h3, h4⟩ := cmd_form hC
    simp only [List.cons.injEq, Value.slice.injEq, true_and, and_true] at he
    obtain ⟨⟨rfl, rfl⟩, ⟨rfl, rfl⟩, ⟨rfl, rfl⟩, ⟨rfl, rfl⟩, ⟨rfl, rfl⟩, rfl, rfl⟩ := he
    obtain rfl : n = m := by omega
    clear hm hC
    have H2 : Hid (TstM anyB n w c.test [.int .i64 c.test.kind, .int .i64 c.test.mat, .int .i64 c.test.part, .slice an c.test.names.length cn, .slice ak c.test.keys.length ck, .bool c.test.over, .int .i64 c.test.limit, .slice at' c.test.tests.length ct]) := h2
    have H3 : Hid (CmdsM anyB n w (.slice aa c.thn.length ca) c.thn) := h3
    have H4 : Hid (CmdsM anyB n w (.slice ae c.els.length ce) c.els) := h4
    have HIH : Hid (ChkC n) := ih
    have HW : Hid (WordsAt w) := hw
    clear h1 h2 h3 h4 ih hw
    obtain ⟨W0, hW0⟩ : ∃ W0, W0 = w.alloc (.cells #[.int .i64 c.kind, .slice ax c.texts.length cx, .int .i64 c.test.kind, .int .i64 c.test.mat, .int .i64 c.test.part, .slice an c.test.names.length cn, .slice ak c.test.keys.length ck, .bool c.test.over, .int .i64 c.test.limit, .slice at' c.test.tests.length ct, .slice aa c.thn.length ca, .slice ae c.els.length ce] 47) := ⟨_, rfl⟩
    have hB0 : Below w.heap.size w W0 := by rw [hW0]; exact (Below.refl _ _).alloc (Nat.le_refl _) _
    have hH : W0.heap[w.heap.size]? = some (.cells #[.int .i64 c.kind, .slice ax c.texts.length cx, .int .i64 c.test.kind, .int .i64 c.test.mat, .int .i64 c.test.part, .slice an c.test.names.length cn, .slice ak c.test.keys.length ck, .bool c.test.over, .int .i64 c.test.limit, .slice at' c.test.tests.length ct, .slice aa c.thn.length ca, .slice ae c.els.length ce] 47) := by rw [hW0]; exact heap_alloc_new w _
    have HW0 : Hid (WordsAt W0) := HW.out.next hB0
    have HWE : Hid _ := hW0
    have HB0 : Hid _ := hB0
    have hsz : w.heap.size < W0.heap.size := by rw [hW0]; simp
    clear hW0 hB0
    have g0 : W0.cell? ⟨w.heap.size, 0, none⟩ = some (.int .i64 c.kind) := by simp [World.cell?, hH]
    have g1 : W0.cell? ⟨w.heap.size, 1, none⟩ = some (.slice ax c.texts.length cx) := by simp [World.cell?, hH]
    have g2 : W0.cell? ⟨w.heap.size, 2, none⟩ = some (.int .i64 c.test.kind) := by simp [World.cell?, hH]
    have g3 : W0.cell? ⟨w.heap.size, 3, none⟩ = some (.int .i64 c.test.mat) := by simp [World.cell?, hH]
    have g4 : W0.cell? ⟨w.heap.size, 4, none⟩ = some (.int .i64 c.test.part) := by simp [World.cell?, hH]
    have g5 : W0.cell? ⟨w.heap.size, 5, none⟩ = some (.slice an c.test.names.length cn) := by simp [World.cell?, hH]
    have g6 : W0.cell? ⟨w.heap.size, 6, none⟩ = some (.slice ak c.test.keys.length ck) := by simp [World.cell?, hH]
    have g7 : W0.cell? ⟨w.heap.size, 7, none⟩ = some (.bool c.test.over) := by simp [World.cell?, hH]
    have g8 : W0.cell? ⟨w.heap.size, 8, none⟩ = some (.int .i64 c.test.limit) := by simp [World.cell?, hH]
    have g9 : W0.cell? ⟨w.heap.size, 9, none⟩ = some (.slice at' c.test.tests.length ct) := by simp [World.cell?, hH]
    have g10 : W0.cell? ⟨w.heap.size, 10, none⟩ = some (.slice aa c.thn.length ca) := by simp [World.cell?, hH]
    have g11 : W0.cell? ⟨w.heap.size, 11, none⟩ = some (.slice ae c.els.length ce) := by simp [World.cell?, hH]
    clear hH
    go_enter Tryd.func42, Tryd.ntmps42
    go_wp2
    rw [← HWE.out]
    go_region_held3 (fun w' => w'.cell? ⟨w.heap.size, 0, none⟩ = some (.int .i64 c.kind) ∧ w'.cell? ⟨w.heap.size, 1, none⟩ = some (.slice ax c.texts.length cx) ∧ w'.cell? ⟨w.heap.size, 2, none⟩ = some (.int .i64 c.test.kind) ∧ w'.cell? ⟨w.heap.size, 3, none⟩ = some (.int .i64 c.test.mat) ∧ w'.cell? ⟨w.heap.size, 4, none⟩ = some (.int .i64 c.test.part) ∧ w'.cell? ⟨w.heap.size, 5, none⟩ = some (.slice an c.test.names.length cn) ∧ w'.cell? ⟨w.heap.size, 6, none⟩ = some (.slice ak c.test.keys.length ck) ∧ w'.cell? ⟨w.heap.size, 7, none⟩ = some (.bool c.test.over) ∧ w'.cell? ⟨w.heap.size, 8, none⟩ = some (.int .i64 c.test.limit) ∧ w'.cell? ⟨w.heap.size, 9, none⟩ = some (.slice at' c.test.tests.length ct) ∧ w'.cell? ⟨w.heap.size, 10, none⟩ = some (.slice aa c.thn.length ca) ∧ w'.cell? ⟨w.heap.size, 11, none⟩ = some (.slice ae c.els.length ce)) (go_keep)
      (first
         | (go_at_call 59
            refine (isNum_any 0 (by omega) c.kind _ (by first | exact HW0.out | exact HWu.out)).mono ?_
            rintro e u ⟨rfl, hu⟩
            have hu' := hu.symm
            subst hu')
         | (go_at_call 60
            refine (commandFits_any c _ _ _ _ _ _ _ _ _ _ _ _ _).mono ?_
            rintro e u2 ⟨rfl, hb⟩
            have HWu : Hid (WordsAt u2) := HW0.out.next (w := W0.drew) hb
            have d0 : u2.cell? ⟨w.heap.size, 0, none⟩ = some (.int .i64 c.kind) := wcell_next (w := W0.drew) g0 hb
            have d1 : u2.cell? ⟨w.heap.size, 1, none⟩ = some (.slice ax c.texts.length cx) := wcell_next (w := W0.drew) g1 hb
            have d2 : u2.cell? ⟨w.heap.size, 2, none⟩ = some (.int .i64 c.test.kind) := wcell_next (w := W0.drew) g2 hb
            have d3 : u2.cell? ⟨w.heap.size, 3, none⟩ = some (.int .i64 c.test.mat) := wcell_next (w := W0.drew) g3 hb
            have d4 : u2.cell? ⟨w.heap.size, 4, none⟩ = some (.int .i64 c.test.part) := wcell_next (w := W0.drew) g4 hb
            have d5 : u2.cell? ⟨w.heap.size, 5, none⟩ = some (.slice an c.test.names.length cn) := wcell_next (w := W0.drew) g5 hb
            have d6 : u2.cell? ⟨w.heap.size, 6, none⟩ = some (.slice ak c.test.keys.length ck) := wcell_next (w := W0.drew) g6 hb
            have d7 : u2.cell? ⟨w.heap.size, 7, none⟩ = some (.bool c.test.over) := wcell_next (w := W0.drew) g7 hb
            have d8 : u2.cell? ⟨w.heap.size, 8, none⟩ = some (.int .i64 c.test.limit) := wcell_next (w := W0.drew) g8 hb
            have d9 : u2.cell? ⟨w.heap.size, 9, none⟩ = some (.slice at' c.test.tests.length ct) := wcell_next (w := W0.drew) g9 hb
            have d10 : u2.cell? ⟨w.heap.size, 10, none⟩ = some (.slice aa c.thn.length ca) := wcell_next (w := W0.drew) g10 hb
            have d11 : u2.cell? ⟨w.heap.size, 11, none⟩ = some (.slice ae c.els.length ce) := wcell_next (w := W0.drew) g11 hb)
         | (go_at_call 58
            refine (checkOne_any _ _ _ _).mono ?_
            rintro e u ⟨rfl, hu⟩
            have hu' := hu.symm
            subst hu'))
    have HB2 : Hid (Below w.heap.size w u2) := (HB0.out.drew).trans (hb.mono HB0.out.drew.size)
    have hsz2 : w.heap.size < u2.heap.size := by have := hb.size; have h2 : W0.drew.heap.size = W0.heap.size := rfl; omega
    rw [one_oneN]
    obtain ⟨x, hx⟩ : ∃ x, x = oneP (isNumP 0 c.kind) d (fitsC c) := ⟨_, rfl⟩
    rw [← hx]
    by_cases hx0 : x = 0
    · have hd6 : d ≤ 6 := by
        rw [hx0] at hx
        unfold oneP at hx
        rcases Nat.lt_or_ge 6 d with h | h
        · rw [if_pos h] at hx; split at hx <;> cases hx
        · exact h
      have HR0 := faultCmd_step n d c
      rw [← hx, if_neg (by simpa using hx0)] at HR0
      have HR : Hid _ := HR0
      clear HR0
      have hd' : (d : Int) ≤ 6 := by omega
      have hd0 : (0 : Int) ≤ (d : Int) := by omega
      subst hx0
      clear hx hb HB0 HW0 g0 g1 g2 g3 g4 g5 g6 g7 g8 g9 g10 g11 HWE hu
      by_cases hk : c.kind = 2
      · have hk' : (c.kind != 2) = false := by simp [hk]
        rw [if_neg (by simpa using hk)] at HR
        go_wp2_with fail
        have hT2 := checkTest_any n c.test 1 u2 an ak at' cn ck ct (by omega) HWu.out (TstM.imp (fun _ h => h) (Keeps.of_below HB2.out) _ _ _ H2.out)
        refine hT2.mono ?_
        clear hT2
        rintro e w3 ⟨rfl, hb3⟩
        have HWw3 : Hid (WordsAt w3) := HWu.out.next hb3
        have HB3 : Hid (Below w.heap.size w w3) := HB2.out.trans (hb3.mono HB2.out.size)
        have k10 := wcell_next d10 hb3
        have k11 := wcell_next d11 hb3
        have hsz3 : w.heap.size < w3.heap.size := Nat.lt_of_lt_of_le hsz2 hb3.size
        obtain ⟨y, hy⟩ : ∃ y, y = faultTst n 1 c.test := ⟨_, rfl⟩
        rw [← hy]
        rw [← hy] at HR
        clear hy hb3
        by_cases hy : y = 0
        · rw [if_neg (by simpa using hy)] at HR
          subst hy
          go_wp2_with fail
          rw [show ((d : Int) + 1) = ((d + 1 : Nat) : Int) from rfl]
          have hT3 := checkCommands_of n HIH.out c.thn (d + 1) w3 aa ca (by omega) HWw3.out (RowM.imp H3.out (fun _ h => h) (Keeps.of_below HB3.out) fun _ _ h => CmdM.imp (fun _ h => h) (Keeps.of_below HB3.out) _ _ _ h)
          refine hT3.mono ?_
          clear hT3
          rintro e w4 ⟨rfl, hb4⟩
          have HWw4 : Hid (WordsAt w4) := HWw3.out.next hb4
          have HB4 : Hid (Below w.heap.size w w4) := HB3.out.trans (hb4.mono HB3.out.size)
          have m11 := wcell_next k11 hb4
          obtain ⟨z, hz⟩ : ∃ z, z = faultCmds n (d + 1) c.thn := ⟨_, rfl⟩
          rw [← hz]
          have hz' : z = firstP (faultCmd n (d + 1)) c.thn := hz
          rw [← hz'] at HR
          clear hz hz' hb4
          by_cases hz : z = 0
          · rw [if_neg (by simpa using hz)] at HR
            subst hz
            have H4' : CmdsM anyB n w4 (.slice ae c.els.length ce) c.els := RowM.imp H4.out (fun _ h => h) (Keeps.of_below HB4.out) fun _ _ h => CmdM.imp (fun _ h => h) (Keeps.of_below HB4.out) _ _ _ h
            have HH4 : Hid _ := H4'
            clear H4'
            go_wp2_with fail
            have hT4 := isElsif_any n c.els ae ce w4 HH4.out
            refine hT4.mono ?_
            clear hT4
            rintro e w5 ⟨rfl, hw5⟩
            have hw5' := hw5.symm
            subst hw5'
            cases hel : elsifP c.els with
            | some x =>
              rw [hel] at HR
              obtain ⟨hels, hkx⟩ := elsifP_some hel
              have hq1 : c.els.length = 1 := by rw [hels]; rfl
              obtain ⟨b, o, ax2, cx2, an2, cn2, ak2, ck2, at2, ct2, aa2, ca2, ae2, ce2, rfl, hbl, e0, e1, e2, e3, e4, e5, e6, e7, e8, e9, e10, e11, hT⟩ := cmd_at HH4.out (i := 0) (x := x) (by rw [hels]; rfl)
              rw [Nat.zero_mul, Nat.add_zero] at e0 e1 e2 e3 e4 e5 e6 e7 e8 e9 e10 e11
              have HT : Hid _ := hT
              clear hT hel hels hkx
              rw [hq1]
              rw [hq1] at m11
              go_wp2_with fail
              have hT5 := HIH.out x d w4 _ _ _ _ _ _ _ _ _ _ _ _ hd HWw4.out HT.out
              refine hT5.mono ?_
              clear hT5
              rintro e w6 ⟨rfl, hb6⟩
              go_wp2
              go_ret
              exact ⟨ret_int HR.out.symm, HB4.out.trans (hb6.mono HB4.out.size)⟩
            | none =>
              rw [hel] at HR
              clear hel
              go_wp2_with fail
              rw [show ((d : Int) + 1) = ((d + 1 : Nat) : Int) from rfl]
              have hT5 := checkCommands_of n HIH.out c.els (d + 1) w4 ae ce (by omega) HWw4.out HH4.out
              refine hT5.mono ?_
              clear hT5
              rintro e w6 ⟨rfl, hb6⟩
              go_wp2
              go_ret
              exact ⟨ret_int HR.out.symm, HB4.out.trans (hb6.mono HB4.out.size)⟩
          · rw [if_pos hz] at HR
            go_wp2
            go_ret
            exact ⟨ret_int HR.out.symm, HB4.out⟩
        · rw [if_pos hy] at HR
          go_wp2
          go_ret
          exact ⟨ret_int HR.out.symm, HB3.out⟩
      · have hk' : (c.kind != 2) = true := by simpa using hk
        have HR2 : Hid (faultCmd (n + 1) d c = 0) := by unfold Hid; rw [HR.out, if_pos hk]
        clear HR
        go_wp2
        go_ret
        exact ⟨ret_int HR2.out.symm, HB2.out⟩
    · have HR : Hid (faultCmd (n + 1) d c = x) := by
        unfold Hid; rw [faultCmd_step, ← hx, if_pos hx0]
      clear hx
      go_wp2
      go_ret
      exact ⟨ret_int HR.out.symm, HB2.out⟩
end Go.Proofs.YtbdpfoidhffalaaDoor
