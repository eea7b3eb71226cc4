/-
  A script that requires all is allowed: walked.
-/
import Derived.Test.YtgbhaphgojlhaaaDoorRulTabs
import Derived.Test.YtgbhaphgojlhaaaDoorAppCmd
namespace Go.Proofs.YtgbhaphgojlhaaaDoor
open Go.RowKit Go.Proofs

theorem none_flag (w : World) : TxtsM anyB (w.alloc (.cells #[.string ⟨#[92, 78, 111, 110, 101]⟩] 9)) (.slice (some ⟨w.heap.size, 0, none⟩) [[92, 78, 111, 110, 101]].length 1) [[92, 78, 111, 110, 101]] :=
  rowM_one (t := 9) (fr := (0, 0)) (cs := [.string (S [92, 78, 111, 110, 101])]) (heap_at _ rfl) rfl trivial rfl
theorem some_row {Q : Nat → Prop} {n : Nat} {w : World} {a : Option Addr} {c : Nat} {x : Cmd} {r : List Cmd} {m : Nat} (h : CmdsM Q n w (.slice a m c) (x :: r)) : ∃ b o, a = some ⟨b, o, none⟩ := by
  obtain ⟨a', c', hv, _, hr⟩ := h
  simp only [Value.slice.injEq] at hv
  obtain ⟨b, o, _, ha, _⟩ := hr 0 x rfl
  exact ⟨b, o, by rw [hv.1, ha]⟩
set_option maxHeartbeats 8000000 in
set_option maxRecDepth 100000 in
theorem ruleAllowed_walk (w : World) (hm : TabsM w) (a : Option Addr) (c : Nat) (l : List Stk) (n : Nat) (hF : SticksM n w (.slice a l.length c) l) :
    Calls Tryd.prog 4 #[.slice a l.length c] w fun e w' => e = .returned (.bool true) ∧ Below w.heap.size w w' := by
  have HM := hid hm
  have HF := hid hF
  clear hm hF
  go_enter Tryd.func4, Tryd.ntmps4
  go_wp2_with fail
  refine (script_any 5 (by omega) cmds0 n l a c w HM.out.1.1 HF.out).mono ?_
  rintro e w1 ⟨r, a1, c1, rfl, hM1, hN, hck, ⟨hcap, hr4⟩, hb1⟩
  obtain ⟨b1, o1, rfl⟩ := some_row hM1
  obtain ⟨CS, hCS⟩ : ∃ CS, CS = reqC :: r := ⟨_, rfl⟩
  have hlen : r.length + 1 = CS.length := by rw [hCS]; rfl
  have HB1 := hid hb1
  have HR1 := hid (show ruleM 5 CS = 0 by rw [hCS]; exact rule_allowed (n := 4) hck fun x hx => (hN x hx 5).1)
  have HR2 := hid (show ruleM 5 ([reqC] ++ CS) = 0 ∨ ruleM 5 ([reqC] ++ CS) = 5 by rw [hCS]; exact rule_more (n := 4) hck fun x hx => (hN x hx 5).1)
  have HS := hid (show ∀ x ∈ CS, ShortC 5 x by
    rw [hCS]
    intro x hx
    rcases List.mem_cons.1 hx with e | e
    · rw [e]; exact ⟨(fun h => by cases h), (fun x hx => by cases hx), fun x hx => by cases hx⟩
    · exact short_of (fun n => (hN x e n).1) 5)
  rw [← hCS] at hM1
  have HC1 := hid (show CmdsM (newB' w.heap.size) 5 w1 (.slice (some ⟨b1, o1, none⟩) CS.length c1) CS from hM1)
  have hpos : 0 < CS.length := by omega
  rw [hlen]
  have hcap' : CS.length ≤ c1 := by omega
  have hlen5 : CS.length ≤ 5 := by omega
  clear hM1 hN hck hb1 hCS hlen hcap hr4
  go_wp2_with fail
  refine (requires_any w1).mono ?_
  rintro e w2 ⟨v, rfl, ⟨cs0, rfl, hC0⟩, hb2⟩
  obtain ⟨RC, hRC⟩ : ∃ RC, RC = reqC := ⟨_, rfl⟩
  rw [← hRC] at hC0
  have HRC := hid hRC
  clear hRC
  obtain ⟨ax, cx, an, cn, ak, ck, at', ct, aa, ca, ae, ce, rfl⟩ : ∃ ax cx an cn ak ck at' ct aa ca ae ce, cs0 = [.int .i64 RC.kind, .slice ax RC.texts.length cx, .int .i64 RC.test.kind, .int .i64 RC.test.mat, .int .i64 RC.test.part, .slice an RC.test.names.length cn, .slice ak RC.test.keys.length ck, .bool RC.test.over, .int .i64 RC.test.limit, .slice at' RC.test.tests.length ct, .slice aa RC.thn.length ca, .slice ae RC.els.length ce] := by
    obtain ⟨ax, cx, an, cn, ak, ck, at', ct, aa, ca, ae, ce, m0, _, h, _⟩ := cmd_form hC0
    exact ⟨ax, cx, an, cn, ak, ck, at', ct, aa, ca, ae, ce, h⟩
  have HC0 := hid (CmdM.both _ _ _ (CmdM.more _ 5 _ _ (by omega) hC0))
  have hs2 := hb2.size
  have HB2 := hid (HB1.out.trans (hb2.mono HB1.out.size))
  have HC2 := hid (CmdsM.next HC1.out hb2)
  clear hC0 hb2
  obtain ⟨W3, hW3⟩ : ∃ W3, W3 = w2.alloc (.cells #[.int .i64 RC.kind, .slice ax RC.texts.length cx, .int .i64 RC.test.kind, .int .i64 RC.test.mat, .int .i64 RC.test.part, .slice an RC.test.names.length cn, .slice ak RC.test.keys.length ck, .bool RC.test.over, .int .i64 RC.test.limit, .slice at' RC.test.tests.length ct, .slice aa RC.thn.length ca, .slice ae RC.els.length ce] 35) := ⟨_, rfl⟩
  have HWE := hid hW3
  have hal : Below w2.heap.size w2 W3 := by rw [hW3]; exact (Below.refl _ _).alloc (Nat.le_refl _) _
  have HB3 := hid (HB2.out.trans (hal.mono HB2.out.size))
  have hs3 : W3.heap.size = w2.heap.size + 1 := by rw [hW3]; simp
  have hs0 := HB1.out.size
  have HO := hid (show OwnCs w.heap.size 5 W3 (.slice (some ⟨w2.heap.size, 0, none⟩) 1 1) [RC] by
    refine own_one (cs := [.int .i64 RC.kind, .slice ax RC.texts.length cx, .int .i64 RC.test.kind, .int .i64 RC.test.mat, .int .i64 RC.test.part, .slice an RC.test.names.length cn, .slice ak RC.test.keys.length ck, .bool RC.test.over, .int .i64 RC.test.limit, .slice at' RC.test.tests.length ct, .slice aa RC.thn.length ca, .slice ae RC.els.length ce]) (by rw [hW3]; exact heap_at _ rfl) (CmdM.imp (fun _ h => h) (Keeps.of_below hal) _ _ _ HC0.out) (fun b hb => ?_) (by omega)
    have h1 : w1.heap.size ≤ b := hb.1
    have h2 := hb.2
    omega)
  have HC3 := hid (show CmdsM (fun b => w.heap.size ≤ b ∧ b < w2.heap.size) 5 W3 (.slice (some ⟨b1, o1, none⟩) CS.length c1) CS from RowM.imp (RowM.both HC2.out (CmdM.both 5)) (fun _ h => h) (Keeps.of_below hal) fun _ _ h => CmdM.imp (fun _ h => h) (Keeps.of_below hal) _ _ _ h)
  clear hW3 hal
  go_wp2_with (at_builtin; refine app_cmds _ rfl _ _ rfl w.heap.size 5 (.slice (some ⟨w2.heap.size, 0, none⟩) 1 1) [RC] CS rfl ?k1 b1 o1 c1 (fun b => w.heap.size ≤ b ∧ b < w2.heap.size) rfl ?k2 ?k4 hpos ?k5 ?k3 _ rfl ?_)
  case k1 => rw [← HWE.out]; exact HO.out
  case k2 => rw [← HWE.out]; exact HC3.out
  case k3 => rw [← HWE.out]; omega
  case k4 => exact fun b hb => ⟨hb.1, fun e => by have h1 : b = w2.heap.size := Option.some.inj e; have := hb.2; omega⟩
  case k5 => simp; omega
  rw [← HWE.out]
  intro g cap w4 hown4 hcap4 hgrow hat hlt4
  have hgs := hgrow.size
  have hown4' : OwnCs w.heap.size 5 w4 (.slice (some ⟨g, 0, none⟩) (reqC :: CS).length cap) (reqC :: CS) := by
    rw [HRC.out] at hown4
    rw [List.length_cons, Nat.add_comm]
    exact hown4
  have HM4 := hid (show CmdsM anyB 5 w4 (.slice (some ⟨g, 0, none⟩) (reqC :: CS).length cap) (reqC :: CS) from CmdsM.any (OwnRow.rowM (firm_cmd 5) hown4' (by unfold maxLen; simp; omega)))
  have HB4 := hid (show Below w.heap.size w w4 from HB3.out.grown hgrow (by omega) (fun j hj => by have h1 : w2.heap.size = j := Option.some.inj hj; omega))
  have HC4 := hid (show CmdsM anyB 5 w4 (.slice (some ⟨b1, o1, none⟩) CS.length c1) CS from RowM.imp HC3.out (fun _ _ => trivial) (Keeps.of_grown hgrow fun b hb e => by have h1 : b = w2.heap.size := Option.some.inj e; have := hb.2; omega) fun _ _ h => CmdM.imp (fun _ _ => trivial) (Keeps.of_grown hgrow fun b hb e => by have h1 : b = w2.heap.size := Option.some.inj e; have := hb.2; omega) _ _ _ h)
  have hcap5 : (reqC :: CS).length ≤ cap := by simp at hcap4 ⊢; omega
  have HLE := hid (show (Value.slice (some ⟨g, 0, none⟩) (1 + CS.length) cap) = .slice (some ⟨g, 0, none⟩) (reqC :: CS).length cap by simp [Nat.add_comm])
  have HS2 := hid (show ∀ x ∈ reqC :: CS, ShortC 5 x from fun x hx => by
    rcases List.mem_cons.1 hx with e | e
    · rw [e]; exact ⟨(fun h => by cases h), (fun x hx => by cases hx), fun x hx => by cases hx⟩
    · exact HS.out x e)
  rw [HLE.out]
  clear hown4 hown4' hgrow hat HWE HLE
  obtain ⟨CT, hCT⟩ : ∃ CT, CT = reqC :: CS := ⟨_, rfl⟩
  have HR3 := hid (show ruleM 5 CT = 0 ∨ ruleM 5 CT = 5 by rw [hCT]; exact HR2.out)
  rw [← hCT] at HM4 HS2 hcap5
  rw [← hCT]
  clear hCT
  obtain ⟨W5, hW5⟩ : ∃ W5, W5 = w4.alloc (.cells #[.string ⟨#[92, 78, 111, 110, 101]⟩] 9) := ⟨_, rfl⟩
  have HWE5 := hid hW5
  have hal5 : Below w4.heap.size w4 W5 := by rw [hW5]; exact (Below.refl _ _).alloc (Nat.le_refl _) _
  have HB5 := hid (HB4.out.trans (hal5.mono HB4.out.size))
  have HX5 := hid (show TxtsM anyB W5 (.slice (some ⟨w4.heap.size, 0, none⟩) [[92, 78, 111, 110, 101]].length 1) [[92, 78, 111, 110, 101]] by rw [hW5]; exact none_flag w4)
  have HFL := hid (show Calls Tryd.prog 8 #[.slice (some ⟨w4.heap.size, 0, none⟩) 1 1] W5 fun e w' => e = .returned (.tuple #[.int .i64 0, .int .i64 7]) ∧ Below W5.heap.size W5 w' from flags_any [[92, 78, 111, 110, 101]] (some ⟨w4.heap.size, 0, none⟩) 1 W5 (HM.out.1.next HB5.out).2.2.2.2 HX5.out)
  have HM5 := hid (CmdsM.next HM4.out hal5)
  have HC5 := hid (CmdsM.next HC4.out hal5)
  clear hW5 hal5
  go_wp2_with fail
  rw [← HWE5.out]
  refine HFL.out.mono ?_
  rintro e w6 ⟨rfl, hb6⟩
  simp only
  have HB6 := hid (HB5.out.trans (hb6.mono HB5.out.size))
  have HM6 := hid (CmdsM.next HM5.out hb6)
  have HC6 := hid (CmdsM.next HC5.out hb6)
  clear hb6 HWE5
  go_wp2_with fail
  refine (rcheck_some 4 CS b1 o1 c1 w6 (HM.out.1.next HB6.out) hcap' HS.out HC6.out).mono ?_
  rintro e w7 ⟨rfl, hb7⟩
  simp only
  have HB7 := hid (HB6.out.trans (hb7.mono HB6.out.size))
  have HM7 := hid (CmdsM.next HM6.out hb7)
  have HR4 := hid (show ruleM (4 + 1) CS = 0 from HR1.out)
  rw [HR4.out]
  clear hb7
  go_wp2_with fail
  refine (rcheck_some 4 CT g 0 cap w7 (HM.out.1.next HB7.out) hcap5 HS2.out HM7.out).mono ?_
  rintro e w8 ⟨rfl, hb8⟩
  simp only
  have HB8 := hid (HB7.out.trans (hb8.mono HB7.out.size))
  have HR5 := hid (show ruleM (4 + 1) CT = 0 ∨ ruleM (4 + 1) CT = 5 from HR3.out)
  clear hb8
  obtain ⟨z, hz⟩ : ∃ z, z = ruleM (4 + 1) CT := ⟨_, rfl⟩
  rw [← hz] at HR5
  rw [← hz]
  clear hz
  rcases HR5.out with hz | hz
  · subst hz
    go_wp2
    go_ret
    exact ⟨rfl, HB8.out⟩
  · subst hz
    go_wp2
    go_ret
    exact ⟨rfl, HB8.out⟩
end Go.Proofs.YtgbhaphgojlhaaaDoor
