/-
  What is not required is not allowed: walked.
-/
import Derived.Test.YtgbhaphgojlhaaaDoorRulTabs
import Derived.Test.YtgbhaphgojlhaaaDoorAppCmd
import Derived.Test.YtgbhaphgojlhaaaDoorKeepNeeds
namespace Go.Proofs.YtgbhaphgojlhaaaDoor
open Go.RowKit Go.Proofs

theorem file_row (w : World) : CmdsM anyB 5 ((w.alloc (.cells #[.string ⟨#[97]⟩] 9)).alloc (.cells #[.int .i64 5, .slice (some ⟨w.heap.size, 0, none⟩) 1 1, .int .i64 0, .int .i64 0, .int .i64 0, .slice none 0 0, .slice none 0 0, .bool false, .int .i64 0, .slice none 0 0, .slice none 0 0, .slice none 0 0] 35)) (.slice (some ⟨w.heap.size + 1, 0, none⟩) 1 1) [fileC] := by
  refine rowM_one (t := 35) (fr := (0, 0)) (cs := [.int .i64 5, .slice (some ⟨w.heap.size, 0, none⟩) 1 1, .int .i64 0, .int .i64 0, .int .i64 0, .slice none 0 0, .slice none 0 0, .bool false, .int .i64 0, .slice none 0 0, .slice none 0 0, .slice none 0 0]) (heap_at _ (by simp)) rfl trivial ?_
  refine ⟨_, _, _, _, _, _, rfl, ?_, none_tst _ _ _, rowM_nil _ _ _ _ _ _, rowM_nil _ _ _ _ _ _⟩
  exact rowM_one (t := 9) (fr := (0, 0)) (cs := [.string (S [97])]) (heap_old _ (heap_at _ rfl)) rfl trivial rfl

set_option maxHeartbeats 8000000 in
set_option maxRecDepth 100000 in
theorem ruleNeeds_walk (w : World) (hm : TabsM w) (a : Option Addr) (c : Nat) (l : List Stk) (n : Nat) (hF : SticksM n w (.slice a l.length c) l) :
    Calls Tryd.prog 5 #[.slice a l.length c] w fun e w' => e = .returned (.bool true) ∧ Below w.heap.size w w' := by
  have HM := hid hm
  have HF := hid hF
  clear hm hF
  go_enter Tryd.func5, Tryd.ntmps5
  go_wp2_with fail
  refine (script_any 5 (by omega) cmds0 n l a c w HM.out.1.1 HF.out).mono ?_
  rintro e w1 ⟨r, a1, c1, rfl, hM1, hN, hck, ⟨hcap, hr4⟩, hb1⟩
  obtain ⟨b1, o1, rfl⟩ : ∃ b1 o1, a1 = some ⟨b1, o1, none⟩ := by
    obtain ⟨a', c', hv, _, hr⟩ := hM1
    simp only [Value.slice.injEq, true_and] at hv
    obtain ⟨b, o, _, ha, _⟩ := hr 0 reqC rfl
    exact ⟨b, o, by rw [hv.1, ha]⟩
  have HB1 := hid hb1
  have HR := hid (rule_needs (n := 4) hck fun x hx => (hN x hx 5).1)
  have HS := hid (show ∀ x ∈ r, ShortC 5 x from fun x hx => short_of (fun n => (hN x hx n).1) 5)
  have HT := hid (show CmdsM anyB 5 w1 (.slice (some ⟨b1, o1 + 1 * 12, none⟩) r.length (c1 - 1)) r from RowM.dropR (l := reqC :: r) hM1.any 1 r.length (c1 - 1) (by simp))
  clear hM1 hN hck hb1
  have k1 : (1 : Int) ≤ (c1 : Int) := by omega
  have k2 : (1 : Int) ≤ ((r.length + 1 : Nat) : Int) := by omega
  go_wp2_with fail
  · have HTX := hid (show CmdsM anyB 5 w1 (.slice (some ⟨b1, o1, none⟩) r.length (0)) r by
      have : r = [] := List.length_eq_zero_iff.1 (by omega)
      subst this
      exact rowM_nil _ _ _ _ _ _)
    refine (rcheck_some 4 r b1 o1 (0) w1 (HM.out.1.next HB1.out) (by omega) HS.out HTX.out).mono ?_
    rintro e w2 ⟨rfl, hb2⟩
    simp only
    have HB2 := hid (HB1.out.trans (hb2.mono HB1.out.size))
    have HT2 := hid (CmdsM.next HTX.out hb2)
    clear hb2
    obtain ⟨z, hz⟩ : ∃ z, z = ruleM (4 + 1) r := ⟨_, rfl⟩
    rw [← hz] at HR
    rw [← hz]
    clear hz
    go_wp2_with fail
    refine (needs_any 5 r (some ⟨b1, o1, none⟩) (0) w2 HT2.out).mono ?_
    rintro e w3 ⟨rfl, hb3⟩
    simp only
    have HB3 := hid (HB2.out.trans (hb3.mono HB2.out.size))
    clear hb3
    cases hn : r.any (needsP 5) with
    | true =>
      have HZ := hid (show z = 8 by rw [HR.out, if_pos hn])
      rw [HZ.out]
      clear hn HR
      go_wp2
      go_ret
      exact ⟨rfl, HB3.out⟩
    | false =>
      have HZ := hid (show z = 0 by rw [HR.out, if_neg (by rw [hn]; simp)])
      rw [HZ.out]
      clear hn HR
      obtain ⟨W4, hW4⟩ : ∃ W4, W4 = (w3.alloc (.cells #[.string ⟨#[97]⟩] 9)).alloc (.cells #[.int .i64 5, .slice (some ⟨w3.heap.size, 0, none⟩) 1 1, .int .i64 0, .int .i64 0, .int .i64 0, .slice none 0 0, .slice none 0 0, .bool false, .int .i64 0, .slice none 0 0, .slice none 0 0, .slice none 0 0] 35) := ⟨_, rfl⟩
      have HWE := hid hW4
      have HB4 := hid (show Below w.heap.size w W4 by rw [hW4]; exact (HB3.out.alloc HB3.out.size _).alloc (by have := HB3.out.size; simp; omega) _)
      have HF4 := hid (show CmdsM anyB 5 W4 (.slice (some ⟨w3.heap.size + 1, 0, none⟩) [fileC].length 1) [fileC] by rw [hW4]; exact file_row w3)
      have HCH := hid (show Calls Tryd.prog 13 #[.slice (some ⟨w3.heap.size + 1, 0, none⟩) 1 1] W4 fun e w' => e = .returned (.int .i64 8) ∧ Below W4.heap.size W4 w' by
        have := rcheck_some 4 [fileC] (w3.heap.size + 1) 0 1 W4 (HM.out.1.next HB4.out) (by simp) (fun x hx => by simp at hx; subst hx; exact ⟨(fun h => by cases h), (fun x hx => by cases hx), fun x hx => by cases hx⟩) HF4.out
        rw [rule_file] at this
        exact this)
      clear hW4
      go_wp2_with fail
      rw [← HWE.out]
      refine HCH.out.mono ?_
      rintro e w5 ⟨rfl, hb5⟩
      simp only
      have HB5 := hid (HB4.out.trans (hb5.mono HB4.out.size))
      clear hb5
      go_wp2
      go_ret
      exact ⟨rfl, HB5.out⟩
  · have HTX := hid (show CmdsM anyB 5 w1 (.slice (some ⟨b1, o1 + 12, none⟩) r.length (c1 - 1)) r by exact HT.out)
    refine (rcheck_some 4 r b1 (o1 + 12) (c1 - 1) w1 (HM.out.1.next HB1.out) (by omega) HS.out HTX.out).mono ?_
    rintro e w2 ⟨rfl, hb2⟩
    simp only
    have HB2 := hid (HB1.out.trans (hb2.mono HB1.out.size))
    have HT2 := hid (CmdsM.next HTX.out hb2)
    clear hb2
    obtain ⟨z, hz⟩ : ∃ z, z = ruleM (4 + 1) r := ⟨_, rfl⟩
    rw [← hz] at HR
    rw [← hz]
    clear hz
    go_wp2_with fail
    refine (needs_any 5 r (some ⟨b1, o1 + 12, none⟩) (c1 - 1) w2 HT2.out).mono ?_
    rintro e w3 ⟨rfl, hb3⟩
    simp only
    have HB3 := hid (HB2.out.trans (hb3.mono HB2.out.size))
    clear hb3
    cases hn : r.any (needsP 5) with
    | true =>
      have HZ := hid (show z = 8 by rw [HR.out, if_pos hn])
      rw [HZ.out]
      clear hn HR
      go_wp2
      go_ret
      exact ⟨rfl, HB3.out⟩
    | false =>
      have HZ := hid (show z = 0 by rw [HR.out, if_neg (by rw [hn]; simp)])
      rw [HZ.out]
      clear hn HR
      obtain ⟨W4, hW4⟩ : ∃ W4, W4 = (w3.alloc (.cells #[.string ⟨#[97]⟩] 9)).alloc (.cells #[.int .i64 5, .slice (some ⟨w3.heap.size, 0, none⟩) 1 1, .int .i64 0, .int .i64 0, .int .i64 0, .slice none 0 0, .slice none 0 0, .bool false, .int .i64 0, .slice none 0 0, .slice none 0 0, .slice none 0 0] 35) := ⟨_, rfl⟩
      have HWE := hid hW4
      have HB4 := hid (show Below w.heap.size w W4 by rw [hW4]; exact (HB3.out.alloc HB3.out.size _).alloc (by have := HB3.out.size; simp; omega) _)
      have HF4 := hid (show CmdsM anyB 5 W4 (.slice (some ⟨w3.heap.size + 1, 0, none⟩) [fileC].length 1) [fileC] by rw [hW4]; exact file_row w3)
      have HCH := hid (show Calls Tryd.prog 13 #[.slice (some ⟨w3.heap.size + 1, 0, none⟩) 1 1] W4 fun e w' => e = .returned (.int .i64 8) ∧ Below W4.heap.size W4 w' by
        have := rcheck_some 4 [fileC] (w3.heap.size + 1) 0 1 W4 (HM.out.1.next HB4.out) (by simp) (fun x hx => by simp at hx; subst hx; exact ⟨(fun h => by cases h), (fun x hx => by cases hx), fun x hx => by cases hx⟩) HF4.out
        rw [rule_file] at this
        exact this)
      clear hW4
      go_wp2_with fail
      rw [← HWE.out]
      refine HCH.out.mono ?_
      rintro e w5 ⟨rfl, hb5⟩
      simp only
      have HB5 := hid (HB4.out.trans (hb5.mono HB4.out.size))
      clear hb5
      go_wp2
      go_ret
      exact ⟨rfl, HB5.out⟩
end Go.Proofs.YtgbhaphgojlhaaaDoor
