/-
  What the reader's quoted and words do: the walks.
-/
import Derived.Test.YtmcpipgjckgjgaaDoorWhoPlain
namespace Go.Proofs.YtmcpipgjckgjgaaDoor
open Go.RowKit

/-- How much the reader has still to read: for a loop's measure. -/
def restOf (b : Nat) (w : World) : Nat := (txtOf ((w.cell? ⟨b, 0, none⟩).getD undef)).size
theorem restOf_is {b : Nat} {w : World} {s : List UInt8} (h : RB w b s) : restOf b w = s.length := by
  unfold restOf
  rw [h.cell]
  exact size_S s
theorem byte_ne {c d : UInt8} (h : c ≠ d) : ¬ (c.toNat : Int) = (d.toNat : Int) := fun e => h (UInt8.toNat_inj.1 (by omega))

set_option maxHeartbeats 4000000 in
set_option maxRecDepth 100000 in
theorem quoted_any (b : Nat) (t : List UInt8) (w : World) (hR : RB w b (34 :: t)) :
    Calls Tryd.prog 39 #[.pointer (some ⟨b, 0, none⟩)] w (Rd b w ((quoteS false t).map fun r => (.tuple #[], r))) := by
  have HR : Hid (RB w b (34 :: t)) := hR
  clear hR
  go_enter Tryd.func39, Tryd.ntmps39
  go_wp2_with fail
  refine (take_any b 34 (34 :: t) _ HR.out).mono ?_
  rintro e w1 ⟨rfl, hR1, hB1⟩
  go_wp2
  go_loopw [6] (fun _ wr => ∃ t', RB wr b t' ∧ Hid (quoteS false t = quoteS false t') ∧ But b w wr) (fun _ wr => restOf b wr)
  case atStart => exact ⟨t, hR1, rfl, hB1⟩
  case round =>
    obtain ⟨t', hRr, HQ, hBr⟩ := hrel
    have HRr : Hid (RB wr b t') := hRr
    clear hRr hR1 hB1
    cases t' with
    | nil =>
      go_wp2_with fail
      refine (next_any b [] _ HRr.out).mono ?_
      rintro e u ⟨rfl, hB⟩
      go_wp2
      rw [HQ.out]
      exact ⟨rfl, rfl, hBr.trans hB⟩
    | cons c u =>
      by_cases h34 : c = 34
      · have HN : Hid (quoteS false (c :: u) = some u) := by unfold Hid quoteS; rw [if_pos h34]
        subst h34
        go_wp2_with fail
        refine (next_any b (34 :: u) _ HRr.out).mono ?_
        rintro e v ⟨rfl, hR2, hB⟩
        go_wp2
        first | go_end0 | refine bodyPost_ret (results_none rfl _ _ _) rfl ?_
        rw [HQ.out, HN.out]
        exact ⟨rfl, hR2, hBr.trans hB⟩
      · have hq1 : ¬ (c.toNat : Int) = 34 := byte_ne (d := 34) h34
        by_cases h92 : c = 92
        · have hc92 : (c.toNat : Int) = 92 := by rw [h92]; rfl
          have HN : Hid (quoteS false (c :: u) = quoteS true u) := by unfold Hid; rw [quoteS, if_neg h34, if_pos h92]
          clear h34 h92
          go_wp2_with fail
          refine (next_any b (c :: u) _ HRr.out).mono ?_
          rintro e v ⟨rfl, hR2, hB⟩
          have HR2 : Hid (RB v b u) := hR2
          clear hR2
          go_wp2_with fail
          refine (next_any b u _ HR2.out).mono ?_
          cases u with
          | nil =>
            rintro e v2 ⟨rfl, hB2⟩
            go_wp2
            rw [HQ.out, HN.out]
            exact ⟨rfl, rfl, (hBr.trans hB).trans hB2⟩
          | cons x y =>
            rintro e v2 ⟨rfl, hR3, hB2⟩
            by_cases hx : x = 34 ∨ x = 92
            · have HM : Hid (quoteS true (x :: y) = quoteS false y) := by unfold Hid; rw [quoteS, if_pos hx]
              have HD : Hid (restOf b v2 < restOf b wr) := by
                unfold Hid
                rw [restOf_is hR3, restOf_is HRr.out]; simp; omega
              have HR3 : Hid (RB v2 b y) := hR3
              have HB3 : Hid (But b w v2) := (hBr.trans hB).trans hB2
              clear hR3 hB hB2 hBr
              by_cases hx1 : x = 34
              · have hxi : (x.toNat : Int) = 34 := by rw [hx1]; rfl
                clear hx hx1
                go_wp2
                go_roundw
                case rel => first | exact ⟨y, HR3.out, by unfold Hid; rw [HQ.out, HN.out, HM.out], HB3.out⟩ | ((repeat apply Exists.intro); exact ⟨⟨y, HR3.out, by unfold Hid; rw [HQ.out, HN.out, HM.out], HB3.out⟩, rfl⟩) | (refine ⟨trivial, ?_⟩; (repeat apply Exists.intro); exact ⟨⟨y, HR3.out, by unfold Hid; rw [HQ.out, HN.out, HM.out], HB3.out⟩, rfl⟩)
                case measure => exact HD.out
              · have hxi : ¬ (x.toNat : Int) = 34 := byte_ne (d := 34) hx1
                have hx2 : (x.toNat : Int) = 92 := by rcases hx with h | h; exact absurd h hx1; rw [h]; rfl
                clear hx hx1
                go_wp2
                go_roundw
                case rel => first | exact ⟨y, HR3.out, by unfold Hid; rw [HQ.out, HN.out, HM.out], HB3.out⟩ | ((repeat apply Exists.intro); exact ⟨⟨y, HR3.out, by unfold Hid; rw [HQ.out, HN.out, HM.out], HB3.out⟩, rfl⟩) | (refine ⟨trivial, ?_⟩; (repeat apply Exists.intro); exact ⟨⟨y, HR3.out, by unfold Hid; rw [HQ.out, HN.out, HM.out], HB3.out⟩, rfl⟩)
                case measure => exact HD.out
            · have HM : Hid (quoteS true (x :: y) = none) := by unfold Hid; rw [quoteS, if_neg hx]
              have hx1 : ¬ (x.toNat : Int) = 34 := byte_ne (d := 34) fun e => hx (Or.inl e)
              have hx2 : ¬ (x.toNat : Int) = 92 := byte_ne (d := 92) fun e => hx (Or.inr e)
              clear hx hR3
              go_wp2
              case' roundEnd =>
                rename_i hor
                exfalso
                rcases hor with h | h
                · exact hx1 (by simpa using h)
                · exact hx2 (by simpa using h)
              rw [HQ.out, HN.out, HM.out]
              exact ⟨rfl, rfl, (hBr.trans hB).trans hB2⟩
        · have hq2 : ¬ (c.toNat : Int) = 92 := byte_ne (d := 92) h92
          have HN : Hid (quoteS false (c :: u) = quoteS false u) := by unfold Hid; rw [quoteS, if_neg h34, if_neg h92]
          clear h34 h92
          go_wp2_with fail
          refine (next_any b (c :: u) _ HRr.out).mono ?_
          rintro e v ⟨rfl, hR2, hB⟩
          have HD : Hid (restOf b v < restOf b wr) := by
            unfold Hid
            rw [restOf_is hR2, restOf_is HRr.out]; simp
          have HR2 : Hid (RB v b u) := hR2
          have HB2 : Hid (But b w v) := hBr.trans hB
          clear hR2 hB hBr
          go_wp2
          go_roundw
          case rel => first | exact ⟨u, HR2.out, by unfold Hid; rw [HQ.out, HN.out], HB2.out⟩ | ((repeat apply Exists.intro); exact ⟨⟨u, HR2.out, by unfold Hid; rw [HQ.out, HN.out], HB2.out⟩, rfl⟩) | (refine ⟨trivial, ?_⟩; (repeat apply Exists.intro); exact ⟨⟨u, HR2.out, by unfold Hid; rw [HQ.out, HN.out], HB2.out⟩, rfl⟩)
          case measure => exact HD.out

set_option maxHeartbeats 4000000 in
set_option maxRecDepth 100000 in
theorem words_any (b : Nat) (s : List UInt8) (w : World) (hR : RB w b s) (hs : s.length ≤ 1048576) :
    Calls Tryd.prog 28 #[.pointer (some ⟨b, 0, none⟩)] w (Rd b w ((wordsP s).map fun r => (.tuple #[], r))) := by
  have HR : Hid (RB w b s) := hR
  clear hR
  go_enter Tryd.func28, Tryd.ntmps28
  go_wp2
  go_loopw [6] (fun _ wr => ∃ t, t.length ≤ 1048576 ∧ RB wr b t ∧ Hid (wordsP s = wordsP t) ∧ But b w wr) (fun _ wr => restOf b wr)
  case atStart => exact ⟨s, hs, HR.out, rfl, But.refl _ _⟩
  case round =>
    obtain ⟨t, htl, hRr, HQ, hBr⟩ := hrel
    have HRr : Hid (RB wr b t) := hRr
    have hc := hRr.cell
    have HP : Hid (Lib.hasPrefix (S t).data.toList (⟨#[34]⟩ : ByteArray).data.toList = (takeP 34 t).isSome) := by unfold Hid; rw [list_S]; exact prefix_one 34 _
    clear hRr
    by_cases h34 : ∃ u, t = 34 :: u
    · obtain ⟨u, rfl⟩ := h34
      have HT : Hid ((takeP 34 (34 :: u)).isSome = true) := rfl
      have HN : Hid _ := wordsP_quote u
      go_wp2_with fail
      refine (hasPrefix_any (S (34 :: u)) ⟨#[34]⟩ _).mono ?_
      rintro e v ⟨rfl, hv⟩
      have hv' := hv.symm
      subst hv'
      rw [HP.out, HT.out]
      go_wp2_with fail
      refine (quoted_any b u _ HRr.out).mono ?_
      cases hq : quoteS false u with
      | none =>
        rintro e v ⟨rfl, hB⟩
        have HE : Hid (wordsP s = none) := by unfold Hid; rw [HQ.out, HN.out, hq]; rfl
        clear hq
        go_wp2
        rw [HE.out]
        exact ⟨rfl, rfl, hBr.trans hB⟩
      | some r =>
        rintro e v ⟨rfl, hR2, hB⟩
        have HE : Hid (wordsP s = wordsP (wblanks r)) := by unfold Hid; rw [HQ.out, HN.out, hq]; rfl
        have hql := quoteS_len hq
        have hbl := wblanks_len r
        have HR2 : Hid (RB v b r) := hR2
        clear hq hR2
        go_wp2_with fail
        refine (blanks_any b r _ HR2.out).mono ?_
        rintro e v2 ⟨rfl, hR3, hB2⟩
        have HD : Hid (restOf b v2 < restOf b wr) := by
          unfold Hid
          rw [restOf_is hR3, restOf_is HRr.out]; simp; omega
        have HR3 : Hid (RB v2 b (wblanks r)) := hR3
        have HB3 : Hid (But b w v2) := (hBr.trans hB).trans hB2
        have hl3 : (wblanks r).length ≤ 1048576 := by simp at htl; omega
        clear hR3 hB hB2 hBr
        go_wp2
        go_roundw
        case rel => first | exact ⟨wblanks r, hl3, HR3.out, HE, HB3.out⟩ | ((repeat apply Exists.intro); exact ⟨⟨wblanks r, hl3, HR3.out, HE, HB3.out⟩, rfl⟩) | (refine ⟨trivial, ?_⟩; (repeat apply Exists.intro); exact ⟨⟨wblanks r, hl3, HR3.out, HE, HB3.out⟩, rfl⟩)
        case measure => exact HD.out
    · have HT : Hid ((takeP 34 t).isSome = false) := by
        unfold Hid
        cases ht : takeP 34 t with
        | none => rfl
        | some r => exact absurd ⟨r, takeP_some ht⟩ h34
      go_wp2_with fail
      refine (hasPrefix_any (S t) ⟨#[34]⟩ _).mono ?_
      rintro e v ⟨rfl, hv⟩
      have hv' := hv.symm
      subst hv'
      rw [HP.out, HT.out]
      go_wp2_with fail
      refine (run_any b t _ HRr.out htl).mono ?_
      rintro e v ⟨rfl, hR2, hB⟩
      have HR2 : Hid (RB v b (wrest t)) := hR2
      clear hR2
      cases hw : wrun t with
      | nil =>
        have HE : Hid (wordsP s = some (wrest t)) := by
          unfold Hid
          rw [HQ.out]
          have hrr := wrun_rest t
          rw [hw, List.nil_append] at hrr
          rw [hrr]
          cases t with
          | nil => exact wordsP_nil
          | cons c u =>
            refine wordsP_stop (fun e => h34 ⟨u, by rw [e]⟩) ?_
            cases hr : runB c with
            | false => rfl
            | true => rw [wrun_yes hr] at hw; cases hw
        have he := S_none
        clear hw h34
        go_wp2
        first | go_end0 | refine bodyPost_ret (results_none rfl _ _ _) rfl ?_
        rw [HE.out]
        exact ⟨rfl, HR2.out, hBr.trans hB⟩
      | cons c u =>
        have hcr : ∃ u', t = c :: u' ∧ runB c = true := by
          cases t with
          | nil => cases hw
          | cons c' u' =>
            cases hr : runB c' with
            | false => rw [wrun_no hr] at hw; cases hw
            | true => rw [wrun_yes hr] at hw; cases hw; exact ⟨u', rfl, hr⟩
        obtain ⟨u', htu, hcr⟩ := hcr
        have HE : Hid (wordsP s = wordsP (wblanks (wrest t))) := by
          unfold Hid
          rw [HQ.out, htu]
          exact wordsP_run (fun e => h34 ⟨u', by rw [htu, e]⟩) hcr
        have hlen : (wrest t).length < t.length := by
          have := congrArg List.length (wrun_rest t)
          rw [hw] at this; simp at this; omega
        have hbl := wblanks_len (wrest t)
        have he := S_some c u
        clear hw h34 htu hcr
        go_wp2_with fail
        refine (blanks_any b (wrest t) _ HR2.out).mono ?_
        rintro e v2 ⟨rfl, hR3, hB2⟩
        have HD : Hid (restOf b v2 < restOf b wr) := by
          unfold Hid
          rw [restOf_is hR3, restOf_is HRr.out]; omega
        have HR3 : Hid (RB v2 b (wblanks (wrest t))) := hR3
        have HB3 : Hid (But b w v2) := (hBr.trans hB).trans hB2
        clear hR3 hB hB2 hBr
        go_wp2
        go_roundw
        case rel => first | exact ⟨wblanks (wrest t), by omega, HR3.out, HE, HB3.out⟩ | ((repeat apply Exists.intro); exact ⟨⟨wblanks (wrest t), by omega, HR3.out, HE, HB3.out⟩, rfl⟩) | (refine ⟨trivial, ?_⟩; (repeat apply Exists.intro); exact ⟨⟨wblanks (wrest t), by omega, HR3.out, HE, HB3.out⟩, rfl⟩)
        case measure => exact HD.out
end Go.Proofs.YtmcpipgjckgjgaaDoor
