/-
  What postroomref.TokensJoined does, and what the laws' tokens and sameTokens do: the walks.
-/
import Derived.Test.YtfdkeodfkapncaaDoorRefJoin
import Derived.Test.YtfdkeodfkapncaaDoorTokJoin
namespace Go.Proofs.YtfdkeodfkapncaaDoor
open Go.RowKit Go.Proofs

theorem textT_big {t : Tok} (h : faultT t = 0) (hl : t.text.length ≤ 1048576) : (textT t).length ≤ 3000000 := by
  rcases kind_cases h with ⟨k, _⟩ | ⟨k, _⟩ | ⟨k, a, b, e⟩ | ⟨k, _⟩ | ⟨k, _⟩
  · unfold textT; rw [k]; simp; omega
  · unfold textT; rw [k]; simp; omega
  · unfold textT; rw [k]; simp only [if_true]
    have := decL_len t.num.toNat 9 (by omega)
    omega
  · unfold textT; rw [k]; have := quoteL_len t.text; simp; omega
  · unfold textT; rw [k]; simp; omega

set_option maxHeartbeats 8000000 in
set_option maxRecDepth 100000 in
theorem rjoin_any (a : Option Addr) (c : Nat) (ts : List Tok) (w : World) (hF : ToksAt w a ts) (hT : ∀ t ∈ ts, t.text.length ≤ 1048576) :
    Calls Tryd.prog 9 #[.slice a ts.length c] w fun e w' => e = .returned (joinV (joinM ts)) ∧ Below w.heap.size w w' := by
  by_cases h4 : 400 < ts.length
  · have HR : Hid (joinV (joinM ts) = .tuple #[.string ⟨#[]⟩, .int .i64 5]) := by unfold Hid joinV joinM; rw [if_pos h4]; rfl
    have hq : (400 : Int) < (ts.length : Int) := by omega
    clear h4 hF hT
    go_enter Tryd.func9, Tryd.ntmps9
    go_wp2
    go_ret2
    exact ⟨by rw [HR.out]; rfl, Below.refl _ _⟩
  have hq : ¬ (400 : Int) < (ts.length : Int) := by omega
  have HR : Hid (joinM ts = match joinP [] ts with | .ok s => (s, 0) | .error e => ([], e)) := by unfold Hid joinM; rw [if_neg h4]; rfl
  have hn4 : ts.length ≤ 400 := by omega
  have HF : Hid (ToksAt w a ts) := hF
  have HT : Hid _ := hT
  clear hF hT h4
  go_enter Tryd.func9, Tryd.ntmps9
  go_wp2
  go_loopw [4, 5] (fun s i wr => ∃ (k : Nat) (acc : List UInt8), k ≤ ts.length ∧ i = .int .i64 k ∧ acc.length ≤ 2000 ∧ s = .string (S acc) ∧ Hid (joinP [] ts = joinP acc (ts.drop k)) ∧ Hid (Below w.heap.size w wr)) (fun _ i _ => ts.length - (intOf i).toNat)
  case atStart => exact ⟨0, [], Nat.zero_le _, rfl, by simp, rfl, rfl, Below.refl _ _⟩
  case round =>
    obtain ⟨k, acc, hk, rfl, hacc, rfl, HQ, HB⟩ := hrel
    have haz : (S acc).size ≤ 2000 := by rw [size_S]; exact hacc
    by_cases hlt : k < ts.length
    · obtain ⟨t, ht⟩ : ∃ t, ts[k]? = some t := ⟨_, List.getElem?_eq_getElem hlt⟩
      have hki : (k : Int) < (ts.length : Int) := by omega
      have hk0 : (0 : Int) ≤ (k : Int) := by omega
      obtain ⟨b, o, rfl, hbl, c0, c1, c2⟩ := (HF.out.below HB.out) k t ht
      have HTL : Hid (t.text.length ≤ 1048576) := HT.out t (List.mem_of_getElem? ht)
      have HTM : Hid (t.text.length ≤ maxLen) := by unfold Hid maxLen; have := HTL.out; omega
      have hdr : ts.drop k = t :: ts.drop (k + 1) := by
        rw [List.drop_eq_getElem_cons hlt]
        congr 1
        rw [List.getElem?_eq_getElem hlt] at ht
        exact Option.some.inj ht
      have HP : Hid (joinP [] ts = if faultT t ≠ 0 then .error (faultT t) else if 2000 < (acc ++ textT t ++ [32]).length then .error 1 else joinP (acc ++ textT t ++ [32]) (ts.drop (k + 1))) := by
        unfold Hid; rw [HQ.out, hdr, joinP]
      clear ht hdr
      obtain ⟨x, hx⟩ : ∃ x, x = faultT t := ⟨_, rfl⟩
      have HX : Hid _ := hx
      go_wp2_with fail
      refine (rfault_any t _ HTM.out).mono ?_
      rintro e u1 ⟨rfl, hb1⟩
      rw [← HX.out]
      have d0 := wcell_next c0 hb1
      have d1 := wcell_next c1 hb1
      have d2 := wcell_next c2 hb1
      have HB1 : Hid (Below w.heap.size w u1) := HB.out.trans (hb1.mono HB.out.size)
      clear hb1 c0 c1 c2
      by_cases hx0 : x = 0
      · have hf0 : faultT t = 0 := by rw [← hx]; exact hx0
        have HF0 : Hid _ := hf0
        have htb := textT_big hf0 HTL.out
        have htz : (S (textT t)).size ≤ 3000000 := by rw [size_S]; exact htb
        have HSS : Hid (S acc ++ S (textT t) ++ (⟨#[32]⟩ : ByteArray) = S (acc ++ textT t ++ [32])) := by
          unfold Hid
          have e1 : (⟨#[32]⟩ : ByteArray) = S [32] := rfl
          rw [e1, S_app, S_app]
        obtain ⟨m, hm⟩ : ∃ m, m = (acc ++ textT t ++ [32]).length := ⟨_, rfl⟩
        have HP2 : Hid (joinP [] ts = if 2000 < m then .error 1 else joinP (acc ++ textT t ++ [32]) (ts.drop (k + 1))) := by
          unfold Hid; rw [HP.out, if_neg (by rw [HF0.out]; simp), hm]
        have HMM : Hid _ := hm
        subst hx0
        clear hx hf0 hm
        go_wp2_with fail
        refine (rtext_any t _ HF0.out HTL.out).mono ?_
        rintro e u2 ⟨rfl, hb2⟩
        have HB2 : Hid (Below w.heap.size w u2) := HB1.out.trans (hb2.mono HB1.out.size)
        clear hb2
        by_cases hm2 : 2000 < m
        · have HG : Hid (joinV (joinM ts) = .tuple #[.string ⟨#[]⟩, .int .i64 1]) := by
            unfold Hid joinV; rw [HR.out, HP2.out, if_pos hm2]; rfl
          have hmN : 2000 < (S acc).size + (S (textT t)).size + 1 := by rw [size_S, size_S]; have := HMM.out; simp at this; omega
          have hmi : (2000 : Int) < ((S acc).size : Int) + ((S (textT t)).size : Int) + 1 := by omega
          go_wp2
          go_ret2
          exact ⟨by rw [HG.out]; rfl, HB2.out⟩
        · have HQ2 : Hid (joinP [] ts = joinP (acc ++ textT t ++ [32]) (ts.drop (k + 1))) := by unfold Hid; rw [HP2.out, if_neg hm2]
          have hmN : ¬ 2000 < (S acc).size + (S (textT t)).size + 1 := by rw [size_S, size_S]; have := HMM.out; simp at this; omega
          have hmi : ¬ (2000 : Int) < ((S acc).size : Int) + ((S (textT t)).size : Int) + 1 := by omega
          have hml : (acc ++ textT t ++ [32]).length ≤ 2000 := by rw [← HMM.out]; omega
          go_wp2
          rw [HSS.out]
          go_roundw
          case rel => exact ⟨k + 1, acc ++ textT t ++ [32], by omega, by go_num, hml, rfl, HQ2, HB2⟩
          case measure => simp [intOf]; omega
      · have HG : Hid (joinV (joinM ts) = .tuple #[.string ⟨#[]⟩, .int .i64 x]) := by
          unfold Hid joinV
          rw [HR.out, HP.out, if_pos (by rw [← hx]; exact hx0), hx]
          rfl
        clear hx
        go_wp2
        go_ret2
        exact ⟨by rw [HG.out]; rfl, HB1.out⟩
    · have HG : Hid (joinV (joinM ts) = .tuple #[.string (S acc), .int .i64 0]) := by
        unfold Hid joinV
        rw [HR.out, HQ.out, List.drop_of_length_le (by omega), joinP]
      have hki : ¬ (k : Int) < (ts.length : Int) := by omega
      go_wp2
      go_ret2
      exact ⟨by rw [HG.out]; rfl, HB.out⟩

set_option maxHeartbeats 4000000 in
set_option maxRecDepth 100000 in
theorem sameL_any (a a' : Option Addr) (c c' : Nat) (ts : List Tok) (w : World) (h1 : ToksAt w a ts) (h2 : ToksAt w a' ts) (hl : ts.length ≤ 1048576) :
    Calls Tryd.prog 10 #[.slice a ts.length c, .slice a' ts.length c'] w fun e w' => e = .returned (.bool true) ∧ Below w.heap.size w w' := by
  have H1 : Hid (ToksAt w a ts) := h1
  have H2 : Hid (ToksAt w a' ts) := h2
  clear h1 h2
  go_enter Tryd.func10, Tryd.ntmps10
  go_wp2
  go_loopw [5] (fun i wr => ∃ (k n : Nat), k ≤ ts.length ∧ i = .int .i64 k ∧ wr = w.drewN n) (fun i _ => ts.length - (intOf i).toNat)
  case atStart => exact ⟨0, 0, Nat.zero_le _, rfl, rfl⟩
  case round =>
    obtain ⟨k, n, hk, rfl, rfl⟩ := hrel
    by_cases hlt : k < ts.length
    · have i1 : (k : Int) < (ts.length : Int) := by omega
      have i3 : (0 : Int) ≤ (k : Int) := by omega
      obtain ⟨t, ht⟩ : ∃ t, ts[k]? = some t := ⟨_, List.getElem?_eq_getElem hlt⟩
      obtain ⟨b, o, rfl, hbl, d0, d1, d2⟩ := H1.out k t ht
      obtain ⟨b', o', rfl, hbl', e0, e1, e2⟩ := H2.out k t ht
      clear ht
      go_wp2
      go_quiet (fail)
      go_wp2
      go_roundw
      case rel => exact ⟨k + 1, n + nq, by omega, by go_num, by first | rfl | rw [World.drewN_drewN]⟩
      case measure => simp [intOf]; omega
    · have i1 : ¬ (k : Int) < (ts.length : Int) := by omega
      go_wp2
      go_ret
      exact ⟨rfl, wdrew (Below.refl _ _) n⟩

/-- What copying tokens does: a row of them. -/
def Tkc (w : World) (l : List Tok) (e : Ending) (w' : World) : Prop := ∃ a c, e = .returned (.slice a l.length c) ∧ ToksAt w' a l ∧ Below w.heap.size w w'
theorem toks_cells {w : World} {b o : Nat} {ts : List Tok} (h : ToksAt w (some ⟨b, o, none⟩) ts) : ∀ (j : Nat) u, (cellsT ts)[j]? = some u → w.cell? ((⟨b, o, none⟩ : Addr).add j) = some u := by
  intro j u hj
  have hjl : j < (cellsT ts).length := (List.getElem?_eq_some_iff.1 hj).1
  rw [cellsT_len] at hjl
  obtain ⟨t, ht⟩ : ∃ t, ts[j / 3]? = some t := ⟨_, List.getElem?_eq_getElem (by omega)⟩
  obtain ⟨g0, g1, g2⟩ := cellsT_get ht
  obtain ⟨b', o', he, _, e0, e1, e2⟩ := h (j / 3) t ht
  simp only [Option.some.injEq, Addr.mk.injEq, and_true] at he
  obtain ⟨rfl, rfl⟩ := he
  rw [Addr.add_lit]
  have hj3 : j = j / 3 * 3 ∨ j = j / 3 * 3 + 1 ∨ j = j / 3 * 3 + 2 := by omega
  rcases hj3 with e | e | e
  · rw [e, g0] at hj; rw [e, ← hj]; exact e0
  · rw [e, g1] at hj; rw [e, ← hj, ← Nat.add_assoc]; exact e1
  · rw [e, g2] at hj; rw [e, ← hj, ← Nat.add_assoc]; exact e2

set_option maxHeartbeats 4000000 in
set_option maxRecDepth 100000 in
theorem copyL_any (a : Option Addr) (c : Nat) (ts : List Tok) (w : World) (h1 : ToksAt w a ts) (hl : ts.length ≤ 1048576) :
    Calls Tryd.prog 7 #[.slice a ts.length c] w (Tkc w ts) := by
  obtain ⟨i0, hi, hz0, hz1, hz2⟩ := info_parts infoTok
  have H1 : Hid (ToksAt w a ts) := h1
  by_cases h0 : ts = []
  · subst h0
    clear h1
    cases a with
    | none =>
      go_enter Tryd.func7, Tryd.ntmps7
      go_wp2
      go_ret
      exact ⟨none, 0, rfl, toks_nil _ _, Below.refl _ _⟩
    | some ad =>
      go_enter Tryd.func7, Tryd.ntmps7
      go_wp2_with (at_builtin; refine wpList_append_own _ rfl _ _ 22 rfl w.heap.size 34 i0 _ 3 32 Tryd.underlying22 hi hz0 hz1 hz2 rfl (by decide) (.slice none 0 0) 0 [] rfl (World.ownsRow_nil _ _ _ _) ad 0 c [] rfl rfl (fun j u h => by simp at h) (by simp) (by decide) (by decide) (Nat.le_refl _) ?_)
      intro v' w2 hown' hgrow _
      have hB : Below w.heap.size w w2 := (Below.refl _ _).grown hgrow (Nat.le_refl _) (fun j hj => by cases hj)
      obtain ⟨a2, c2, hv2⟩ := own_form hown'
      subst hv2
      clear hown' hgrow
      go_wp2
      go_ret
      exact ⟨_, _, by first | rfl | simp, toks_nil _ _, hB⟩
  · obtain ⟨t, r, hts⟩ := List.exists_cons_of_ne_nil h0
    obtain ⟨b, o, rfl, _⟩ := h1 0 t (by rw [hts]; rfl)
    clear h0 hts h1
    go_enter Tryd.func7, Tryd.ntmps7
    go_wp2_with (at_builtin; refine wpList_append_own _ rfl _ _ 22 rfl w.heap.size 34 i0 _ 3 32 Tryd.underlying22 hi hz0 hz1 hz2 rfl (by decide) (.slice none 0 0) 0 [] rfl (World.ownsRow_nil _ _ _ _) ⟨b, o, none⟩ ts.length c (cellsT ts) rfl (cellsT_len ts) (toks_cells H1.out) ?c2 ?c3 ?c4 ?c5 ?_)
    case c2 => intro u hu; unfold cellsT at hu; obtain ⟨x, _, hx⟩ := List.mem_flatMap.1 hu; simp at hx; rcases hx with rfl | rfl | rfl <;> rfl
    case c3 => unfold maxLen; omega
    case c4 => omega
    case c5 => exact Nat.le_refl _
    intro v' w2 hown' hgrow _
    have hB : Below w.heap.size w w2 := (Below.refl _ _).grown hgrow (Nat.le_refl _) (fun j hj => by cases hj)
    obtain ⟨a2, c2, hv2⟩ := own_form hown'
    subst hv2
    try rw [Nat.zero_add, List.nil_append] at hown'
    have HO : Hid (OwnT w2 w.heap.size (.slice a2 ts.length c2) ts) := hown'
    clear hown' hgrow
    go_wp2
    go_ret
    exact ⟨a2, c2, by first | rfl | simp, HO.out.at, hB⟩
end Go.Proofs.YtfdkeodfkapncaaDoor
