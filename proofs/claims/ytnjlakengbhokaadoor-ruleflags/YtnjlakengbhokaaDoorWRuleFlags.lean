/-
  What rule.Flags and the reference answer is the same: walked.
-/
import Derived.Test.YtnjlakengbhokaaDoorRefFlag
import Derived.Test.YtnjlakengbhokaaDoorTxtOpen
import Derived.Deep.AppendLies
namespace Go.Proofs.YtnjlakengbhokaaDoor
open Go.RowKit Go.Proofs

theorem infoXS : (Tryd.prog.info? 9).map (fun i => (i.zero, i.size, i.bytes)) = some (some (.string ByteArray.empty), 1, 16) := by kernel_rfl
theorem own_xs {w : World} {base n : Nat} {v : Value} {l : List (List UInt8)} {Q : Nat → Prop} (h : w.ownsRow base 9 1 v n (l.map fun x => .string (S x))) (hn : n = l.length) (hq : ∀ b, base ≤ b → Q b) (hl : l.length ≤ maxLen) : TxtsM Q w v l := by
  subst hn
  rcases h.2 with ⟨rfl, hn⟩ | ⟨g, cap, cur, rfl, hb, hg, hcap, hcm, hcs, htk⟩
  · have : l = [] := List.length_eq_zero_iff.1 hn
    subst this
    exact rowM_nil _ _ _ _ _ _
  · refine ⟨some ⟨g, 0, none⟩, cap, rfl, hl, fun i x hx => ?_⟩
    refine ⟨g, 0, [.string (S x)], rfl, (Array.getElem?_eq_some_iff.1 hg).1, hq g hb, rfl, fun j u hj => ?_, rfl⟩
    cases j with
    | succ j => simp at hj
    | zero =>
      simp at hj
      subst hj
      have := World.ownsRow.cells h (g := g) rfl i (.string (S x)) (by rw [List.getElem?_map, hx]; rfl)
      rw [Addr.add_lit] at this
      simpa using this
set_option maxHeartbeats 4000000 in
set_option maxRecDepth 100000 in
theorem texts_any (l : List (List UInt8)) (a : Option Addr) (c : Nat) (w : World) (hT : TxtsM anyB w (.slice a l.length c) l) (hl : l.length ≤ 8796093022208) :
    Calls Tryd.prog 10 #[.slice a l.length c] w fun e w' => ∃ a' c', e = .returned (.slice a' l.length c') ∧ TxtsM anyB w' (.slice a' l.length c') l ∧ Below w.heap.size w w' := by
  obtain ⟨i0, hi, hz0, hz1, hz2⟩ := info_parts infoXS
  by_cases h0 : l = []
  · subst h0
    clear hT
    cases a
    all_goals
      go_enter Tryd.func10, Tryd.ntmps10
      go_wp2
      go_ret
      exact ⟨_, _, rfl, rowM_nil _ _ _ _ _ _, Below.refl _ _⟩
  · obtain ⟨b, o, rfl, hc⟩ : ∃ b o, a = some ⟨b, o, none⟩ ∧ ∀ (j : Nat) u, (l.map fun x => Value.string (S x))[j]? = some u → w.cell? ((⟨b, o, none⟩ : Addr).add j) = some u := by
      obtain ⟨a', c', hv, _, hr⟩ := hT
      simp only [Value.slice.injEq, true_and] at hv
      obtain ⟨rfl, rfl⟩ := hv
      cases l with
      | nil => exact absurd rfl h0
      | cons x r =>
        obtain ⟨b, o, _, rfl, _⟩ := hr 0 x rfl
        refine ⟨b, o, rfl, fun j u hj => ?_⟩
        rw [List.getElem?_map] at hj
        obtain ⟨y, hy, rfl⟩ : ∃ y, (x :: r)[j]? = some y ∧ Value.string (S y) = u := by
          cases hh : (x :: r)[j]? with
          | none => rw [hh] at hj; cases hj
          | some y => rw [hh] at hj; exact ⟨y, rfl, by simpa using hj⟩
        obtain ⟨b', o', cs, ha, _, _, _, hcc, hP⟩ := hr j y hy
        cases ha
        have hcs : cs = [.string (S y)] := hP
        subst hcs
        rw [Addr.add_lit]
        simpa using hcc 0 _ rfl
    have hpos : 0 < l.length := List.length_pos_iff.2 h0
    have HC := hid hc
    clear hc h0 hT
    go_enter Tryd.func10, Tryd.ntmps10
    go_wp2_with (at_builtin; refine wpList_append_lies _ rfl _ _ 22 rfl w.heap.size 9 i0 _ 1 16 Tryd.underlying22 hi hz0 hz1 hz2 rfl (by decide) (.slice none 0 0) 0 [] rfl (World.ownsRow_nil _ _ _ _) ⟨b, o, none⟩ l.length c (l.map fun x => .string (S x)) rfl (by simp) HC.out ?c2 hpos ?c3 ?c4 (Nat.le_refl _) _ rfl ?_)
    case c2 => intro u hu; obtain ⟨y, _, rfl⟩ := List.mem_map.1 hu; rfl
    case c3 => unfold maxLen; omega
    case c4 => omega
    intro g cap w3 hown3 hgrow hat hlt3
    have HO := hid (show TxtsM anyB w3 (.slice (some ⟨g, 0, none⟩) l.length cap) l from own_xs (base := w.heap.size) (n := l.length) (by simpa using hown3) rfl (fun _ _ => trivial) (by unfold maxLen; omega))
    have HB := hid (show Below w.heap.size w w3 from (Below.refl _ _).grown hgrow (Nat.le_refl _) (fun j hj => by cases hj))
    clear hown3 hgrow hat
    go_wp2
    go_ret
    exact ⟨_, _, rfl, HO.out, HB.out⟩

set_option maxHeartbeats 4000000 in
set_option maxRecDepth 100000 in
theorem ruleFlags_walk (w : World) (hm : FlagsAt w) (a : Option Addr) (c : Nat) (l : List (List UInt8)) (hF : TxtsM anyB w (.slice a l.length c) l) (hl : l.length ≤ 8796093022208) :
    Calls Tryd.prog 3 #[.slice a l.length c] w fun e w' => e = .returned (.bool true) ∧ Below w.heap.size w w' := by
  have HM := hid hm
  have HF := hid hF
  clear hm hF
  go_enter Tryd.func3, Tryd.ntmps3
  go_wp2_with fail
  refine (texts_any l a c w HF.out hl).mono ?_
  rintro e w1 ⟨a1, c1, rfl, hT1, hb1⟩
  have HT1 := hid hT1
  have HB1 := hid hb1
  clear hT1 hb1
  go_wp2_with fail
  refine (flags_any l a1 c1 w1 (HM.out.next HB1.out) HT1.out).mono ?_
  rintro e w2 ⟨rfl, hb2⟩
  have HB2 := hid (HB1.out.trans (hb2.mono HB1.out.size))
  clear hb2
  cases hf : flagsP l with
  | none =>
    have HE := hid hf
    clear hf
    unfold flagsT
    simp only
    go_wp2_with fail
    refine (flagsOf_any l a c w2 (HF.out.next HB2.out)).mono ?_
    rintro e u ⟨rfl, hu⟩
    have hu' := hu.symm
    subst hu'
    rw [HE.out]
    unfold flagsT
    simp only
    go_wp2
    go_ret
    exact ⟨rfl, HB2.out⟩
  | some v =>
    have HE := hid hf
    clear hf
    unfold flagsT
    simp only
    go_wp2_with fail
    refine (flagsOf_any l a c w2 (HF.out.next HB2.out)).mono ?_
    rintro e u ⟨rfl, hu⟩
    have hu' := hu.symm
    subst hu'
    rw [HE.out]
    unfold flagsT
    simp only
    go_wp2
    go_ret
    exact ⟨by simp, HB2.out⟩
end Go.Proofs.YtnjlakengbhokaaDoor
