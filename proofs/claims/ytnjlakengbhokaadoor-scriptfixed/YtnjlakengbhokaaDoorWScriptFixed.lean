/-
  What is parsed may be, and is shown to be parsed the same: walked.
-/
import Derived.Test.YtnjlakengbhokaaDoorScrRd13
import Derived.Test.YtnjlakengbhokaaDoorScrSh
import Derived.Test.YtnjlakengbhokaaDoorScrBk
import Derived.Test.YtnjlakengbhokaaDoorScrSm
import Derived.Test.YtnjlakengbhokaaDoorScrW
namespace Go.Proofs.YtnjlakengbhokaaDoor
open Go.RowKit Go.Proofs

theorem badTok_lt : ∀ (l : List Tok) (i j : Nat) (e : Int), badTok l i = some (j, e) → j < i + l.length := by
  intro l
  induction l with
  | nil => intro i j e h; cases h
  | cons t l ih =>
    intro i j e h
    unfold badTok at h
    by_cases ht : faultT t = 0
    · rw [if_pos ht] at h; have := ih _ _ _ h; simp; omega
    · rw [if_neg ht] at h; cases h; simp
theorem parse_err {l : List Tok} {cs : List Cmd} {i er : Int} (h : parseS l = (cs, i, er)) (he : er ≠ 0) : cs = [] ∧ 0 ≤ i ∧ i ≤ (l.length : Int) := by
  unfold parseS at h
  by_cases hl : 400 < l.length
  · rw [if_pos hl] at h; simp only [Prod.mk.injEq] at h; obtain ⟨rfl, rfl, _⟩ := h; exact ⟨rfl, by omega, by omega⟩
  · rw [if_neg hl] at h
    cases hb : badTok l 0 with
    | some y =>
      obtain ⟨j, e⟩ := y
      rw [hb] at h
      simp only [Prod.mk.injEq] at h
      obtain ⟨rfl, rfl, _⟩ := h
      have := badTok_lt _ _ _ _ hb
      exact ⟨rfl, by omega, by omega⟩
    | none =>
      rw [hb] at h
      simp only at h
      cases hs : scriptR l with
      | ok y => obtain ⟨c, q⟩ := y; rw [hs] at h; simp only [Prod.mk.injEq] at h; exact absurd h.2.2.symm he
      | error m => obtain ⟨m, e⟩ := m; rw [hs] at h; simp only [Prod.mk.injEq] at h; obtain ⟨rfl, rfl, _⟩ := h; exact ⟨rfl, by omega, by omega⟩
theorem parse_brace : parseS [markT 125] = ([], 0, 3) := by rfl
theorem toks_cells' {w : World} {b o : Nat} {ts : List Tok} (h : ToksAt w (some ⟨b, o, none⟩) ts) : ∀ (j : Nat) u, (cellsT ts)[j]? = some u → w.cell? ((⟨b, o, none⟩ : Addr).add j) = some u := by
  intro j u hj
  rw [Addr.add_lit]
  have hlt : j < (cellsT ts).length := (List.getElem?_eq_some_iff.1 hj).1
  rw [cellsT_len] at hlt
  obtain ⟨t, ht⟩ : ∃ t, ts[j / 3]? = some t := ⟨_, List.getElem?_eq_getElem (by omega)⟩
  obtain ⟨b', o', ha, _, h1, h2, h3⟩ := h _ t ht
  cases ha
  obtain ⟨g0, g1, g2⟩ := cellsT_get ht
  have hm : j % 3 = 0 ∨ j % 3 = 1 ∨ j % 3 = 2 := by omega
  rcases hm with e | e | e
  · have ej : j = j / 3 * 3 := by omega
    rw [ej, g0] at hj; cases hj
    rw [ej]; exact h1
  · have ej : j = j / 3 * 3 + 1 := by omega
    rw [ej, g1] at hj; cases hj
    rw [ej, ← Nat.add_assoc]; exact h2
  · have ej : j = j / 3 * 3 + 2 := by omega
    rw [ej, g2] at hj; cases hj
    rw [ej, ← Nat.add_assoc]; exact h3

theorem parse_nil (a : Option Addr) (c : Nat) (w : World) (hw : WordsAt w) :
    Calls Tryd.prog 16 #[.slice a 0 c] w fun e w' => ∃ a' c', e = .returned (.tuple #[.slice a' 0 c', .int .i64 0, .int .i64 0]) ∧ Below w.heap.size w w' := by
  have h : Calls Tryd.prog 16 #[.slice a ([] : List Tok).length c] w (Parsed w (([] : List Tok).length + 3) (parseS [])) := parse_any a c [] w (toks_nil _ _) (by unfold maxLen; simp) (fun t ht => by cases ht) hw
  refine Calls.mono h ?_
  rintro e w' ⟨a', c', he, _, hb⟩
  exact ⟨a', c', he, hb⟩
theorem show_nil (a : Option Addr) (c : Nat) (w : World) (hw : WordsAt w) :
    Calls Tryd.prog 17 #[.slice a 0 c] w fun e w' => ∃ a' c', e = .returned (.tuple #[.slice a' 0 c', .int .i64 0]) ∧ Below w.heap.size w w' := by
  have h : Calls Tryd.prog 17 #[.slice a ([] : List Cmd).length c] w (Shown w 3 []) := sshow_any 3 [] a c w hw (rowM_nil _ _ _ _ _ _)
  refine Calls.mono h ?_
  intro e w' hS
  have hck : checkM 3 [] = 0 := rfl
  unfold Shown at hS
  rw [if_pos hck] at hS
  obtain ⟨a', c', he, _, hb⟩ := hS
  exact ⟨a', c', he, hb⟩
theorem same_nil (a b : Option Addr) (c d : Nat) (w : World) :
    Calls Tryd.prog 18 #[.slice a 0 c, .slice b 0 d] w fun e w' => e = .returned (.bool true) ∧ Below w.heap.size w w' :=
  sameCmd_any 3 [] w a b c d (rowM_nil _ _ _ _ _ _) (rowM_nil _ _ _ _ _ _)

set_option maxHeartbeats 16000000 in
set_option maxRecDepth 100000 in
theorem scriptFixed_walk (w : World) (hE : WordsAt w) (a : Option Addr) (c : Nat) (ts : List Tok) (hF : ToksAt w a ts) (hB : ts.length ≤ 4398046511104 ∧ ∀ t ∈ ts, t.text.length ≤ maxLen) :
    Calls Tryd.prog 7 #[.slice a ts.length c] w fun e w' => e = .returned (.bool true) ∧ Below w.heap.size w w' := by
  have HE := hid hE
  have HF := hid hF
  have HLN := hid hB.1
  have HX := hid hB.2
  obtain ⟨i0, hi, hz0, hz1, hz2⟩ := info_parts infoTok
  clear hE hB
  obtain ⟨W0, hW0⟩ : ∃ W0, W0 = w.alloc (.cells #[.int .i64 5, .string (S [125]), .int .i64 0] 44) := ⟨_, rfl⟩
  have hal : Below w.heap.size w W0 := by rw [hW0]; exact (Below.refl _ _).alloc (Nat.le_refl _) _
  have HT0 := hid (show ToksAt W0 (some ⟨w.heap.size, 0, none⟩) [markT 125] by
    intro i t ht
    cases i with
    | succ i => simp at ht
    | zero =>
      simp at ht
      subst ht
      have hh : W0.heap[w.heap.size]? = some (.cells #[.int .i64 5, .string (S [125]), .int .i64 0] 44) := by rw [hW0]; exact heap_alloc_new w _
      exact ⟨_, _, rfl, by rw [hW0]; simp, by simp [World.cell?, hh, markT], by simp [World.cell?, hh, markT], by simp [World.cell?, hh, markT]⟩)
  have HWE := hid hW0
  have HB0 := hid hal
  have HEW := hid (HE.out.next hal)
  clear hW0 hal
  go_enter Tryd.func7, Tryd.ntmps7
  go_wp2_with fail
  rw [show (Value.string { data := #[125] }) = .string (S [125]) from rfl, ← HWE.out]
  refine (parse_any (some ⟨w.heap.size, 0, none⟩) 1 [markT 125] W0 HT0.out (by unfold maxLen; simp) (fun t ht hk => by simp at ht; subst ht; unfold maxLen; simp [markT]) HEW.out).mono ?_
  rw [parse_brace]
  rintro e w1 ⟨a1, c1, rfl, _, hb1⟩
  simp only
  have HB1 := hid (HB0.out.trans (hb1.mono HB0.out.size))
  have HE1 := hid (HE.out.next HB1.out)
  have HF1 := hid (HF.out.below HB1.out)
  clear hb1
  by_cases h0 : ts = []
  · subst h0
    clear hF
    cases a with
    | none =>
      go_wp2_with fail
      refine (parse_nil none 0 w1 HE1.out).mono ?_
      rintro e w3 ⟨a3, c3, rfl, hb3⟩
      have HB3 := hid (HB1.out.trans (hb3.mono HB1.out.size))
      have HW3 := hid (HE1.out.next hb3)
      clear hb3
      go_wp2_with fail
      refine (show_nil a3 c3 w3 HW3.out).mono ?_
      rintro e w4 ⟨a4, c4, rfl, hb4⟩
      have HB4 := hid (HB3.out.trans (hb4.mono HB3.out.size))
      have HW4 := hid (HW3.out.next hb4)
      clear hb4
      go_wp2_with fail
      refine (parse_nil a4 c4 w4 HW4.out).mono ?_
      rintro e w5 ⟨a5, c5, rfl, hb5⟩
      have HB5 := hid (HB4.out.trans (hb5.mono HB4.out.size))
      clear hb5
      go_wp2_with fail
      refine (same_nil a3 a5 c3 c5 w5).mono ?_
      rintro e w6 ⟨rfl, hb6⟩
      have HB6 := hid (HB5.out.trans (hb6.mono HB5.out.size))
      clear hb6
      go_wp2
      go_ret
      exact ⟨rfl, HB6.out⟩
    | some ad =>
      go_wp2_with (at_builtin; refine wpList_append_own _ rfl _ _ 40 rfl w1.heap.size 44 i0 _ 3 32 Tryd.underlying40 hi hz0 hz1 hz2 rfl (by decide) (.slice none 0 0) 0 [] rfl (World.ownsRow_nil _ _ _ _) ad 0 c [] rfl rfl (fun j u h => by simp at h) (by simp) (by decide) (by decide) (Nat.le_refl _) ?_)
      intro v' w2 hown' hgrow _
      have HB2a := hid (show Below w1.heap.size w1 w2 from (Below.refl _ _).grown hgrow (Nat.le_refl _) (fun j hj => by cases hj))
      have hOT : OwnT w2 w1.heap.size v' [] := hown'
      obtain ⟨a2, c2, hv2⟩ := hOT.any
      rw [List.length_nil] at hv2
      subst hv2
      have HB2 := hid (HB1.out.trans (HB2a.out.mono HB1.out.size))
      have HE2 := hid (HE1.out.next HB2a.out)
      clear hown' hgrow hOT
      go_wp2_with fail
      refine (parse_nil none 0 w2 HE2.out).mono ?_
      rintro e w3 ⟨a3, c3, rfl, hb3⟩
      have HB3 := hid (HB2.out.trans (hb3.mono HB2.out.size))
      have HW3 := hid (HE2.out.next hb3)
      clear hb3
      go_wp2_with fail
      refine (show_nil a3 c3 w3 HW3.out).mono ?_
      rintro e w4 ⟨a4, c4, rfl, hb4⟩
      have HB4 := hid (HB3.out.trans (hb4.mono HB3.out.size))
      have HW4 := hid (HW3.out.next hb4)
      clear hb4
      go_wp2_with fail
      refine (parse_nil a4 c4 w4 HW4.out).mono ?_
      rintro e w5 ⟨a5, c5, rfl, hb5⟩
      have HB5 := hid (HB4.out.trans (hb5.mono HB4.out.size))
      clear hb5
      go_wp2_with fail
      refine (same_nil a3 a5 c3 c5 w5).mono ?_
      rintro e w6 ⟨rfl, hb6⟩
      have HB6 := hid (HB5.out.trans (hb6.mono HB5.out.size))
      clear hb6
      go_wp2
      go_ret
      exact ⟨rfl, HB6.out⟩
  · obtain ⟨t0, r0, hts0⟩ := List.exists_cons_of_ne_nil h0
    obtain ⟨b, o, rfl, _⟩ := hF 0 t0 (by rw [hts0]; rfl)
    clear h0 hts0 hF
    go_wp2_with (at_builtin; refine wpList_append_own _ rfl _ _ 40 rfl w1.heap.size 44 i0 _ 3 32 Tryd.underlying40 hi hz0 hz1 hz2 rfl (by decide) (.slice none 0 0) 0 [] rfl (World.ownsRow_nil _ _ _ _) ⟨b, o, none⟩ ts.length c (cellsT ts) rfl (cellsT_len ts) (toks_cells' HF1.out) ?c2 ?c3 ?c4 ?c5 ?_)
    case c2 => intro u hu; unfold cellsT at hu; obtain ⟨x, _, hx⟩ := List.mem_flatMap.1 hu; simp at hx; rcases hx with rfl | rfl | rfl <;> rfl
    case c3 => have := HLN.out; unfold maxLen; omega
    case c4 => have := HLN.out; omega
    try (case c5 => exact Nat.le_refl _)
    intro v' w2 hown' hgrow _
    have HB2a := hid (show Below w1.heap.size w1 w2 from (Below.refl _ _).grown hgrow (Nat.le_refl _) (fun j hj => by cases hj))
    have hOT : OwnT w2 w1.heap.size v' ts := by
      have := hown'
      try simp only [Nat.zero_add, List.nil_append] at this
      exact this
    obtain ⟨a2, c2, hv2⟩ := hOT.any
    subst hv2
    have HA2 := hid (OwnT.at hOT)
    have HB2 := hid (HB1.out.trans (HB2a.out.mono HB1.out.size))
    have HE2 := hid (HE1.out.next HB2a.out)
    clear hown' hgrow hOT
    go_wp2_with fail
    have HSH := hid (show ∀ t ∈ ts, t.kind = 1 ∨ t.kind = 2 → t.text.length ≤ maxLen from fun t ht _ => HX.out t ht)
    have hts := HLN.out
    refine (parse_any a2 c2 ts w2 HA2.out (by unfold maxLen; first | omega | simp) HSH.out HE2.out).mono ?_
    obtain ⟨cs, i, er, hp⟩ : ∃ cs i er, parseS ts = (cs, i, er) := ⟨(parseS ts).1, (parseS ts).2.1, (parseS ts).2.2, rfl⟩
    rw [hp]
    rintro e w3 ⟨a3, c3, rfl, hM3, hb3⟩
    simp only at hM3 ⊢
    have HB3 := hid (HB2.out.trans (hb3.mono HB2.out.size))
    have HW3 := hid (HE2.out.next hb3)
    have HM3 := hid (show CmdsM anyB (ts.length + 3) w3 (.slice a3 cs.length c3) cs from RowM.imp hM3 (fun _ _ => trivial) (Keeps.refl _ _) (fun _ _ h => CmdM.imp (fun _ _ => trivial) (Keeps.refl _ _) _ _ _ h))
    clear hb3 hM3
    by_cases her : er = 0
    · subst her
      obtain ⟨rfl, _, _, _, hval⟩ := parse_val hp
      have hdeep : ∀ x ∈ cs, DeepC (ts.length + 3) x := fun x hx => (hval x hx).1
      have hfault : faultCmds (ts.length + 3) 0 cs = 0 := firstP_none fun x hx => (hval x hx).2 _
      have HDP := hid hdeep
      have HFT := hid hfault
      have HCK := hid (show checkM (ts.length + 3) cs = if 400 < (cmdsT (ts.length + 3) cs).length then 5 else 0 by unfold checkM; rw [if_neg (by simp [hfault])])
      clear hp hval hdeep hfault
      go_wp2_with fail
      refine (sshow_any (ts.length + 3) cs a3 c3 w3 HW3.out HM3.out).mono ?_
      intro e w4 hS
      by_cases hbig : 400 < (cmdsT (ts.length + 3) cs).length
      · have hck : checkM (ts.length + 3) cs = 5 := by rw [HCK.out, if_pos hbig]
        unfold Shown at hS
        rw [if_neg (by rw [hck]; decide), hck] at hS
        obtain ⟨rfl, hb4⟩ := hS
        have HB4 := hid (HB3.out.trans (hb4.mono HB3.out.size))
        clear hck hb4 hbig
        go_wp2
        go_ret
        exact ⟨rfl, HB4.out⟩
      · have hck : checkM (ts.length + 3) cs = 0 := by rw [HCK.out, if_neg hbig]
        unfold Shown at hS
        rw [if_pos hck] at hS
        obtain ⟨a4, c4, rfl, hA4, hb4⟩ := hS
        have HB4 := hid (HB3.out.trans (hb4.mono HB3.out.size))
        have HW4 := hid (HW3.out.next hb4)
        have HM4 := hid (HM3.out.next hb4)
        have HA4 := hid hA4
        have HPB := hid (parse_back (ts.length + 3) cs HDP.out hck)
        have HS4 := hid (show ∀ t ∈ cmdsT (ts.length + 3) cs, t.kind = 1 ∨ t.kind = 2 → t.text.length ≤ maxLen from fun t ht hk => by have := shown_short HDP.out HFT.out t ht hk; unfold maxLen; omega)
        have HLB := hid (show (cmdsT (ts.length + 3) cs).length ≤ 400 by omega)
        clear hck hb4 hbig hA4
        go_wp2_with fail
        refine (parse_any a4 c4 (cmdsT (ts.length + 3) cs) w4 HA4.out (by have := HLB.out; unfold maxLen; omega) HS4.out HW4.out).mono ?_
        rw [HPB.out]
        rintro e w5 ⟨a5, c5, rfl, hM5, hb5⟩
        simp only at hM5 ⊢
        have HB5 := hid (HB4.out.trans (hb5.mono HB4.out.size))
        have HMa := hid (show CmdsM anyB (ts.length + 3 + (cmdsT (ts.length + 3) cs).length + 3) w5 (.slice a3 cs.length c3) cs from RowM.imp (HM4.out.next hb5) (fun _ h => h) (Keeps.refl _ _) (fun _ _ h => CmdM.more _ _ _ _ (by omega) h))
        have HMb := hid (show CmdsM anyB (ts.length + 3 + (cmdsT (ts.length + 3) cs).length + 3) w5 (.slice a5 cs.length c5) cs from RowM.imp hM5 (fun _ _ => trivial) (Keeps.refl _ _) (fun _ _ h => CmdM.more _ _ _ _ (by omega) (CmdM.imp (fun _ _ => trivial) (Keeps.refl _ _) _ _ _ h)))
        clear hb5 hM5
        go_wp2_with fail
        refine (sameCmd_any _ cs w5 a3 a5 c3 c5 HMa.out HMb.out).mono ?_
        rintro e w6 ⟨rfl, hb6⟩
        have HB6 := hid (HB5.out.trans (hb6.mono HB5.out.size))
        clear hb6
        go_wp2
        go_ret
        exact ⟨rfl, HB6.out⟩
    · obtain ⟨hcs, h0, h1⟩ := parse_err hp her
      subst hcs
      have her' : (er != 0) = true := by simpa using her
      clear hp her
      go_wp2
      go_ret
      exact ⟨rfl, HB3.out⟩
end Go.Proofs.YtnjlakengbhokaaDoor
