/-
  A letter is over, under, or just of a size: walked.
-/
import Derived.Test.YtmnlaijggoojkaaGreatDoorLtrMsg
import Derived.Test.YtmnlaijggoojkaaGreatDoorJudAsk
import Derived.Test.YtmnlaijggoojkaaGreatDoorRulTabs
namespace Go.Proofs.YtmnlaijggoojkaaGreatDoor
open Go.RowKit Go.Proofs

theorem ask_size (o : Opn) (ho : Opened o) (b : Bool) (k : Nat) (hk : k < 700) (w : World) (hw : Tabs w) (hm : maxLenCell w) :
    Calls Tryz.prog 12 #[.agg #[.int .i64 10, .int .i64 0, .int .i64 0, .slice none 0 0, .slice none 0 0, .bool b, .int .i64 (k : Int), .slice none 0 0], .agg #[.string (S o.fl), .string (S o.fd), .string (S o.tl), .string (S o.td), .string (S o.tx)]] w fun e w' => e = .returned (.tuple #[.bool (sizeP o.tx.length ⟨10, 0, 0, [], [], b, (k : Int), []⟩), .int .i64 0]) ∧ Below w.heap.size w w' := by
  have hf : faultTst 1 1 ⟨10, 0, 0, [], [], b, (k : Int), []⟩ = 0 := by
    have h1 : fitsT ⟨10, 0, 0, [], [], b, (k : Int), []⟩ = true := by
      unfold fitsT
      simp [noTst]
      omega
    unfold faultTst
    rw [h1]
    rfl
  have hr : ruleM 2 [envC, ifC ⟨10, 0, 0, [], [], b, (k : Int), []⟩] = 0 := rule_ask (n := 1) ⟨rfl, rfl, (fun h => by cases h), fun u hu => by cases hu⟩ hf (by unfold testT; simp)
  exact Ask_ok 0 ⟨10, 0, 0, [], [], b, (k : Int), []⟩ o none none none 0 0 0 w hw hm ho ⟨_, _, _, rfl, rowM_nil _ _ _ _ _ _, rowM_nil _ _ _ _ _ _, rowM_nil _ _ _ _ _ _⟩ hr (good_of 1 1 _ hf)

set_option maxHeartbeats 2000000 in
set_option maxRecDepth 100000 in
theorem askSize_walk (w : World) (hm : TabsM w) (fl fd fg tl td tg : ByteArray) (a : Option Addr) (c : Nat) (fs : List F) (body : ByteArray) (hF : FieldsAt w a fs) (hL : fs.length ≤ maxLen) (hB : ∀ f ∈ fs, f.1.length ≤ maxLen ∧ f.2.length ≤ maxLen) (hY : body.size ≤ maxLen) (s1 : fl.size ≤ maxLen) (s2 : fd.size ≤ maxLen) (s3 : tl.size ≤ maxLen) (s4 : td.size ≤ maxLen) (n : Int) (wn : (Lit.int .i64 n).wf = true) :
    Calls Tryz.prog 5 #[.agg #[.string fl, .string fd, .string fg, .string tl, .string td, .string tg, .slice a fs.length c, .string body], .int .i64 n] w fun e w' => e = .returned (.bool true) ∧ Below w.heap.size w w' := by
  have HM := hid hm
  obtain ⟨o, ho⟩ : ∃ o, o = ltrO fl fd tl td fs body := ⟨_, rfl⟩
  have HO := hid (show Opened o by rw [ho]; exact ltr_opened _ _ _ _ _ _)
  obtain ⟨W0, hW0⟩ : ∃ W0, W0 = w.alloc (.cells #[.string fl, .string fd, .string fg, .string tl, .string td, .string tg, .slice a fs.length c, .string body] 26) := ⟨_, rfl⟩
  have HWE := hid hW0
  have HB0 := hid (show Below w.heap.size w W0 by rw [hW0]; exact (Below.refl _ _).alloc (Nat.le_refl _) _)
  have HLt := hid (show Calls Tryz.prog 9 #[.agg #[.string fl, .string fd, .string fg, .string tl, .string td, .string tg, .slice a fs.length c, .string body]] W0 (LtrP W0 o) by
    rw [ho]
    exact letter_ok fl fd fg tl td tg a c fs body W0 (hF.below HB0.out) hL hB hY s1 s2 s3 s4 (maxLenCell_below hm.2 HB0.out))
  have hp := pickN_lt n 700 (by omega)
  have HPK := hid (fun (u : World) => picked_any n 700 u wn (by omega) (by omega))
  generalize pickN n 700 = k at *
  have HAK := hid (fun (u : World) (hu : Below w.heap.size w u) (b : Bool) => ask_size o HO.out b k hp u (HM.out.1.next hu) (maxLenCell_below HM.out.2 hu))
  clear hm hF hL hB hY s1 s2 s3 s4 hW0 ho wn
  go_enter Tryz.func5, Tryz.ntmps5
  go_wp2_with fail
  rw [← HWE.out]
  refine HLt.out.mono ?_
  rintro e w1 ⟨he, hb1⟩
  rw [show e = .returned (.tuple #[.agg #[.string (S o.fl), .string (S o.fd), .string (S o.tl), .string (S o.td), .string (S o.tx)], .bool true]) from he]
  simp only
  obtain ⟨W1, hW1⟩ : ∃ W1, W1 = w1.alloc (.cells #[.string (S o.fl), .string (S o.fd), .string (S o.tl), .string (S o.td), .string (S o.tx)] 33) := ⟨_, rfl⟩
  have HWE1 := hid hW1
  have HB1 := hid (show Below w.heap.size w W1 by
    have h := HB0.out.trans (hb1.mono HB0.out.size)
    rw [hW1]; exact h.alloc h.size _)
  have HX1 := hid (show W1.heap[w1.heap.size]? = some (.cells #[.string (S o.fl), .string (S o.fd), .string (S o.tl), .string (S o.td), .string (S o.tx)] 33) by rw [hW1]; exact tl_at _ rfl)
  have HA1 := hid (HAK.out W1 HB1.out true)
  obtain ⟨v1, hv1⟩ : ∃ v1, v1 = sizeP o.tx.length ⟨10, 0, 0, [], [], true, (k : Int), []⟩ := ⟨_, rfl⟩
  obtain ⟨v2, hv2⟩ : ∃ v2, v2 = sizeP o.tx.length ⟨10, 0, 0, [], [], false, (k : Int), []⟩ := ⟨_, rfl⟩
  rw [← hv1] at HA1
  have HV1 := hid (show v1 = decide ((k : Int) < ((S o.tx).size : Int)) by rw [hv1, size_S]; rfl)
  have HV2 := hid (show v2 = decide (((S o.tx).size : Int) < (k : Int)) by rw [hv2, size_S]; rfl)
  have HV := hid hv2
  clear he hb1 hW1 hv1 hv2 HWE
  go_wp2_with fail
  rw [← HWE1.out]
  refine (HPK.out W1).mono ?_
  rintro e u ⟨rfl, hu⟩
  have hu' := hu.symm
  subst hu'
  have hX1 := HX1.out
  have l0 := tl_cell (j := 0) hX1 rfl
  have l1 := tl_cell (j := 1) hX1 rfl
  have l2 := tl_cell (j := 2) hX1 rfl
  have l3 := tl_cell (j := 3) hX1 rfl
  have l4 := tl_cell (j := 4) hX1 rfl
  clear hX1 HWE1
  go_wp2_with fail
  refine HA1.out.mono ?_
  rintro e w2 ⟨rfl, hb2⟩
  simp only
  have HB2 := hid (HB1.out.trans (hb2.mono HB1.out.size))
  have HX2 := hid (tl_low hb2 HX1.out)
  have hX2 := HX2.out
  have m0 := tl_cell (j := 0) hX2 rfl
  have m1 := tl_cell (j := 1) hX2 rfl
  have m2 := tl_cell (j := 2) hX2 rfl
  have m3 := tl_cell (j := 3) hX2 rfl
  have m4 := tl_cell (j := 4) hX2 rfl
  have HA2 := hid (HAK.out w2 HB2.out false)
  rw [← HV.out] at HA2
  clear hb2 hX2 l0 l1 l2 l3 l4
  go_wp2_with fail
  refine HA2.out.mono ?_
  rintro e w3 ⟨rfl, hb3⟩
  simp only
  have HB3 := hid (HB2.out.trans (hb3.mono HB2.out.size))
  have hX3 := tl_low hb3 HX2.out
  have n4 := tl_cell (j := 4) hX3 rfl
  clear hb3 hX3 m0 m1 m2 m3 m4
  by_cases h1 : (k : Int) < ((S o.tx).size : Int)
  · have e1 : v1 = true := by rw [HV1.out]; exact decide_eq_true h1
    have h2 : ¬ ((S o.tx).size : Int) < (k : Int) := by omega
    have e2 : v2 = false := by rw [HV2.out]; exact decide_eq_false h2
    subst e1
    subst e2
    go_wp2
    go_ret
    exact ⟨rfl, HB3.out⟩
  · have e1 : v1 = false := by rw [HV1.out]; exact decide_eq_false h1
    subst e1
    by_cases h2 : ((S o.tx).size : Int) < (k : Int)
    · have e2 : v2 = true := by rw [HV2.out]; exact decide_eq_true h2
      subst e2
      go_wp2
      go_ret
      exact ⟨rfl, HB3.out⟩
    · have e2 : v2 = false := by rw [HV2.out]; exact decide_eq_false h2
      subst e2
      go_wp2
      go_ret
      exact ⟨rfl, HB3.out⟩
end Go.Proofs.YtmnlaijggoojkaaGreatDoor
