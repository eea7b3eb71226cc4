/-
  A Require behind anything else is not allowed: walked.
-/
import Derived.Test.YtgbhaphgojlhaaaDoorWRuleAllowed
namespace Go.Proofs.YtgbhaphgojlhaaaDoor
open Go.RowKit Go.Proofs

theorem rowM_two {A : Type} {Q : Nat → Prop} {k : Nat} {P : A → List Value → Prop} {w : World} {p : Nat} {cs ds : List Value} {t : TypeId} {fr : Nat × Nat} {x y : A} (h : w.heap[p]? = some (.cells (cs ++ ds).toArray t fr)) (h1 : cs.length = k) (h2 : ds.length = k) (hQ : Q p) (hx : P x cs) (hy : P y ds) : RowM Q k P w (.slice (some ⟨p, 0, none⟩) 2 2) [x, y] := by
  have hp : p < w.heap.size := (Array.getElem?_eq_some_iff.1 h).1
  refine ⟨some ⟨p, 0, none⟩, 2, rfl, by unfold maxLen; simp, fun i z hz => ?_⟩
  match i, hz with
  | 0, hz =>
    simp at hz
    subst hz
    refine ⟨p, 0, cs, rfl, hp, hQ, h1, fun j u hj => ?_, hx⟩
    have hj' : j < cs.length := (List.getElem?_eq_some_iff.1 hj).1
    simp only [World.cell?, h]
    rw [Nat.zero_add, Nat.zero_mul, Nat.zero_add, List.getElem?_toArray, List.getElem?_append_left hj']
    exact hj
  | 1, hz =>
    simp at hz
    subst hz
    refine ⟨p, 0, ds, rfl, hp, hQ, h2, fun j u hj => ?_, hy⟩
    simp only [World.cell?, h]
    rw [Nat.zero_add, Nat.one_mul, List.getElem?_toArray, List.getElem?_append_right (by omega), h1, Nat.add_sub_cancel_left]
    exact hj
theorem keep_cmd (Q : Nat → Prop) (w : World) : CmdM Q 5 w keepC [.int .i64 3, .slice none 0 0, .int .i64 0, .int .i64 0, .int .i64 0, .slice none 0 0, .slice none 0 0, .bool false, .int .i64 0, .slice none 0 0, .slice none 0 0, .slice none 0 0] :=
  ⟨_, _, _, _, _, _, rfl, rowM_nil _ _ _ _ _ _, none_tst _ _ _, rowM_nil _ _ _ _ _ _, rowM_nil _ _ _ _ _ _⟩

set_option maxHeartbeats 8000000 in
set_option maxRecDepth 100000 in
theorem ruleLate_walk (w : World) (hm : TabsM w) (a : Option Addr) (c : Nat) (l : List Stk) (n : Nat) (hF : SticksM n w (.slice a l.length c) l) :
    Calls Tryd.prog 6 #[.slice a l.length c] w fun e w' => e = .returned (.bool true) ∧ Below w.heap.size w w' := by
  have HM := hid hm
  have HF := hid hF
  clear hm hF
  go_enter Tryd.func6, Tryd.ntmps6
  go_wp2_with fail
  refine (script_any 5 (by omega) cmds0 n l a c w HM.out.1.1 HF.out).mono ?_
  rintro e w1 ⟨r, a1, c1, rfl, hM1, hN, hck, ⟨hcap, hr4⟩, hb1⟩
  obtain ⟨b1, o1, rfl⟩ := some_row hM1
  obtain ⟨CS, hCS⟩ : ∃ CS, CS = reqC :: r := ⟨_, rfl⟩
  have hlen : r.length + 1 = CS.length := by rw [hCS]; rfl
  have HB1 := hid hb1
  have HR1 := hid (show ruleM 5 (CS ++ [keepC, reqC]) = 3 ∨ ruleM 5 (CS ++ [keepC, reqC]) = 5 by rw [hCS]; exact rule_late (n := 4) hck fun x hx => (hN x hx 5).1)
  have HR2 := hid (show ruleM 5 (oddC :: CS) = 7 ∨ ruleM 5 (oddC :: CS) = 5 by rw [hCS]; exact rule_odd (n := 4) hck fun x hx => (hN x hx 5).1)
  have HS := hid (show ∀ x ∈ CS, ShortC 5 x by
    rw [hCS]
    intro x hx
    rcases List.mem_cons.1 hx with e | e
    · rw [e]; exact ⟨(fun h => by cases h), (fun x hx => by cases hx), fun x hx => by cases hx⟩
    · exact short_of (fun n => (hN x e n).1) 5)
  rw [← hCS] at hM1
  have HC1 := hid (show CmdsM (newB' w.heap.size) 5 w1 (.slice (some ⟨b1, o1, none⟩) CS.length c1) CS from hM1)
  have hpos : 0 < CS.length := by omega
  rw [hlen]
  have hcap' : CS.length ≤ c1 := by omega
  have hlen5 : CS.length ≤ 5 := by omega
  clear hM1 hN hck hb1 hCS hlen hcap hr4
  have HCK := hid (show CmdsM (fun b => w.heap.size ≤ b ∧ b < w1.heap.size) 5 w1 (.slice (some ⟨b1, o1, none⟩) CS.length c1) CS from RowM.both HC1.out (CmdM.both 5))
  have hs0 := HB1.out.size
  go_wp2_with (first
    | (at_builtin; refine app_cmds _ rfl _ _ rfl w.heap.size 5 (.slice none 0 0) [] CS rfl ?k1 b1 o1 c1 (fun b => w.heap.size ≤ b ∧ b < w1.heap.size) rfl ?k2 ?k4 hpos ?k5 ?k3 _ rfl ?_)
    | fail)
  case k1 => exact OwnRow.nil _ _ _ _ _
  case k2 => exact HCK.out
  case k3 => exact hs0
  case k4 => exact fun b hb => ⟨hb.1, fun e => by cases e⟩
  case k5 => simp; omega
  intro g cap w2 hown2 hcap2 hgrow hat hlt2
  have HG := hid hgrow
  have HO := hid hown2
  have HHAT := hid hat
  clear hgrow hown2 hat
  go_wp2_with fail
  refine (requires_any w2).mono ?_
  rintro e w3 ⟨v, rfl, ⟨cs0, rfl, hC0⟩, hb3⟩
  obtain ⟨RC, hRC⟩ : ∃ RC, RC = reqC := ⟨_, rfl⟩
  rw [← hRC] at hC0
  have HRC := hid hRC
  clear hRC
  obtain ⟨ax, cx, an, cn, ak, ck, at', ct, aa, ca, ae, ce, rfl⟩ : ∃ ax cx an cn ak ck at' ct aa ca ae ce, cs0 = [.int .i64 RC.kind, .slice ax RC.texts.length cx, .int .i64 RC.test.kind, .int .i64 RC.test.mat, .int .i64 RC.test.part, .slice an RC.test.names.length cn, .slice ak RC.test.keys.length ck, .bool RC.test.over, .int .i64 RC.test.limit, .slice at' RC.test.tests.length ct, .slice aa RC.thn.length ca, .slice ae RC.els.length ce] := by
    obtain ⟨ax, cx, an, cn, ak, ck, at', ct, aa, ca, ae, ce, m0, _, h, _⟩ := cmd_form hC0
    exact ⟨ax, cx, an, cn, ak, ck, at', ct, aa, ca, ae, ce, h⟩
  have HC0 := hid (CmdM.both _ _ _ (CmdM.more _ 5 _ _ (by omega) hC0))
  have hgs := HG.out.size
  have hs3 := hb3.size
  have HB2 := hid (show Below w.heap.size w w2 from HB1.out.grown HG.out hs0 (fun j hj => by cases hj))
  have hg1 : w1.heap.size ≤ g := by
    rcases HHAT.out with e | e
    · cases e
    · omega
  have HB3 := hid (HB2.out.trans (hb3.mono HB2.out.size))
  have HO3 := hid (OwnRow.nextC HO.out hb3)
  have HC3 := hid (show CmdsM (fun b => w.heap.size ≤ b ∧ b < w1.heap.size) 5 w3 (.slice (some ⟨b1, o1, none⟩) CS.length c1) CS from
    RowM.imp (RowM.imp HCK.out (fun _ h => h) (Keeps.of_grown HG.out fun b hb e => by cases e) fun _ _ h => CmdM.imp (fun _ h => h) (Keeps.of_grown HG.out fun b hb e => by cases e) _ _ _ h) (fun _ h => h) (Keeps.of_below hb3) fun _ _ h => CmdM.imp (fun _ h => h) (Keeps.of_below hb3) _ _ _ h)
  clear hC0 hb3
  obtain ⟨W4, hW4⟩ : ∃ W4, W4 = w3.alloc (.cells #[.int .i64 3, .slice none 0 0, .int .i64 0, .int .i64 0, .int .i64 0, .slice none 0 0, .slice none 0 0, .bool false, .int .i64 0, .slice none 0 0, .slice none 0 0, .slice none 0 0, .int .i64 RC.kind, .slice ax RC.texts.length cx, .int .i64 RC.test.kind, .int .i64 RC.test.mat, .int .i64 RC.test.part, .slice an RC.test.names.length cn, .slice ak RC.test.keys.length ck, .bool RC.test.over, .int .i64 RC.test.limit, .slice at' RC.test.tests.length ct, .slice aa RC.thn.length ca, .slice ae RC.els.length ce] 35) := ⟨_, rfl⟩
  have HWE := hid hW4
  have hal : Below w3.heap.size w3 W4 := by rw [hW4]; exact (Below.refl _ _).alloc (Nat.le_refl _) _
  have hs4 : W4.heap.size = w3.heap.size + 1 := by rw [hW4]; simp
  have HB4 := hid (HB3.out.trans (hal.mono HB3.out.size))
  have HO4 := hid (OwnRow.nextC HO3.out hal)
  have HT4 := hid (show CmdsM (fun b => w2.heap.size ≤ b) 5 W4 (.slice (some ⟨w3.heap.size, 0, none⟩) [keepC, RC].length 2) [keepC, RC] by
    refine rowM_two (t := 35) (fr := (0, 0)) (cs := [.int .i64 3, .slice none 0 0, .int .i64 0, .int .i64 0, .int .i64 0, .slice none 0 0, .slice none 0 0, .bool false, .int .i64 0, .slice none 0 0, .slice none 0 0, .slice none 0 0]) (ds := [.int .i64 RC.kind, .slice ax RC.texts.length cx, .int .i64 RC.test.kind, .int .i64 RC.test.mat, .int .i64 RC.test.part, .slice an RC.test.names.length cn, .slice ak RC.test.keys.length ck, .bool RC.test.over, .int .i64 RC.test.limit, .slice at' RC.test.tests.length ct, .slice aa RC.thn.length ca, .slice ae RC.els.length ce]) (by rw [hW4]; exact heap_at _ rfl) rfl rfl (show w2.heap.size ≤ w3.heap.size by omega) (keep_cmd _ _) ?_
    exact CmdM.imp (fun b (hb : newB' w2.heap.size b ∧ b < w3.heap.size) => hb.1) (Keeps.of_below hal) _ _ _ HC0.out)
  have HC4 := hid (show CmdsM (fun b => w.heap.size ≤ b ∧ b < w1.heap.size) 5 W4 (.slice (some ⟨b1, o1, none⟩) CS.length c1) CS from RowM.imp HC3.out (fun _ h => h) (Keeps.of_below hal) fun _ _ h => CmdM.imp (fun _ h => h) (Keeps.of_below hal) _ _ _ h)
  clear hW4 hal
  go_wp2_with (first
    | (at_builtin; refine app_cmds _ rfl _ _ rfl w.heap.size 5 (.slice (some ⟨g, 0, none⟩) CS.length cap) CS [keepC, RC] rfl ?k1 w3.heap.size 0 2 (fun b => w2.heap.size ≤ b) rfl ?k2 ?k4 (by simp) ?k5 ?k3 _ rfl ?_)
    | fail)
  case k1 => rw [← HWE.out]; simpa using HO4.out
  case k2 => rw [← HWE.out]; exact HT4.out
  case k3 => rw [← HWE.out]; omega
  case k4 => exact fun b hb => ⟨by have h2 : w2.heap.size ≤ b := hb; omega, fun e => by have h1 : b = g := Option.some.inj e; have h2 : w2.heap.size ≤ b := hb; omega⟩
  case k5 => simp; omega
  rw [← HWE.out]
  intro g5 cap5 w5 hown5 hcap5 hgrow5 hat5 hlt5
  have hgs5 := hgrow5.size
  have HL5 := hid (show CmdsM anyB 5 w5 (.slice (some ⟨g5, 0, none⟩) (CS ++ [keepC, reqC]).length cap5) (CS ++ [keepC, reqC]) by
    rw [HRC.out] at hown5
    rw [List.length_append]
    exact CmdsM.any (OwnRow.rowM (firm_cmd 5) hown5 (by unfold maxLen; simp; omega)))
  have HB5 := hid (show Below w.heap.size w w5 from HB4.out.grown hgrow5 (by omega) (fun j hj => by have h1 : g = j := Option.some.inj hj; omega))
  have HC5 := hid (show CmdsM (fun b => w.heap.size ≤ b ∧ b < w1.heap.size) 5 w5 (.slice (some ⟨b1, o1, none⟩) CS.length c1) CS from RowM.imp HC4.out (fun _ h => h) (Keeps.of_grown hgrow5 fun b hb e => by have h1 : b = g := Option.some.inj e; have := hb.2; omega) fun _ _ h => CmdM.imp (fun _ h => h) (Keeps.of_grown hgrow5 fun b hb e => by have h1 : b = g := Option.some.inj e; have := hb.2; omega) _ _ _ h)
  obtain ⟨LT, hLT⟩ : ∃ LT, LT = CS ++ [keepC, reqC] := ⟨_, rfl⟩
  have hLl : CS.length + 2 = LT.length := by rw [hLT]; simp
  have HSL := hid (show ∀ x ∈ LT, ShortC 5 x by
    rw [hLT]
    intro x hx
    rcases List.mem_append.1 hx with e | e
    · exact HS.out x e
    · simp at e
      rcases e with e | e <;> rw [e] <;> exact ⟨(fun h => by cases h), (fun x hx => by cases hx), fun x hx => by cases hx⟩)
  rw [← hLT] at HR1 HL5
  rw [hLl] at hcap5
  rw [hLl]
  clear hLT hLl hown5 hgrow5 hat5 HWE HO HO3 HO4 HG HHAT HT4
  obtain ⟨W6, hW6⟩ : ∃ W6, W6 = (w5.alloc (.cells #[.string ⟨#[118, 97, 114, 105, 97, 98, 108, 101, 115]⟩] 9)).alloc (.cells #[.int .i64 1, .slice (some ⟨w5.heap.size, 0, none⟩) 1 1, .int .i64 0, .int .i64 0, .int .i64 0, .slice none 0 0, .slice none 0 0, .bool false, .int .i64 0, .slice none 0 0, .slice none 0 0, .slice none 0 0] 35) := ⟨_, rfl⟩
  have HWE := hid hW6
  have hal : Below w5.heap.size w5 W6 := by rw [hW6]; exact ((Below.refl _ _).alloc (Nat.le_refl _) _).alloc (by simp) _
  have hs6 : W6.heap.size = w5.heap.size + 2 := by rw [hW6]; simp
  have HB6 := hid (HB5.out.trans (hal.mono HB5.out.size))
  have HO6 := hid (show OwnCs w.heap.size 5 W6 (.slice (some ⟨w5.heap.size + 1, 0, none⟩) 1 1) [oddC] by
    refine own_one (cs := [.int .i64 1, .slice (some ⟨w5.heap.size, 0, none⟩) 1 1, .int .i64 0, .int .i64 0, .int .i64 0, .slice none 0 0, .slice none 0 0, .bool false, .int .i64 0, .slice none 0 0, .slice none 0 0, .slice none 0 0]) (Q2 := fun b => b = w5.heap.size) (by rw [hW6]; exact heap_at _ (by simp)) ?_ (fun b hb => ?_) (by omega)
    · refine ⟨_, _, _, _, _, _, rfl, ?_, none_tst _ _ _, rowM_nil _ _ _ _ _ _, rowM_nil _ _ _ _ _ _⟩
      exact rowM_one (t := 9) (fr := (0, 0)) (cs := [.string (S oddW)]) (by rw [hW6]; exact heap_old _ (heap_at _ rfl)) rfl rfl rfl
    · have h1 : b = w5.heap.size := hb
      omega)
  have HL6 := hid (CmdsM.next HL5.out hal)
  have HC6 := hid (show CmdsM (fun b => w.heap.size ≤ b ∧ b < w1.heap.size) 5 W6 (.slice (some ⟨b1, o1, none⟩) CS.length c1) CS from RowM.imp HC5.out (fun _ h => h) (Keeps.of_below hal) fun _ _ h => CmdM.imp (fun _ h => h) (Keeps.of_below hal) _ _ _ h)
  have HK6 := hid (show ∀ w', W6.grownBy w' (some (w5.heap.size + 1)) → CmdsM anyB 5 w' (.slice (some ⟨g5, 0, none⟩) LT.length cap5) LT from fun w' hg => by
    have h1 : CmdsM (fun b => b < w5.heap.size) 5 w5 (.slice (some ⟨g5, 0, none⟩) LT.length cap5) LT := RowM.imp (RowM.both HL5.out (CmdM.both 5)) (fun _ h => h.2) (Keeps.refl _ _) fun _ _ h => CmdM.imp (fun _ h => h.2) (Keeps.refl _ _) _ _ _ h
    have h2 : CmdsM (fun b => b < w5.heap.size) 5 W6 (.slice (some ⟨g5, 0, none⟩) LT.length cap5) LT := RowM.imp h1 (fun _ h => h) (Keeps.of_below hal) fun _ _ h => CmdM.imp (fun _ h => h) (Keeps.of_below hal) _ _ _ h
    have hk : Keeps (fun b => b < w5.heap.size) W6 w' := Keeps.of_grown hg fun b hb e => by have h1 : b = w5.heap.size + 1 := Option.some.inj e; have h2 : b < w5.heap.size := hb; omega
    exact RowM.imp h2 (fun _ _ => trivial) hk fun _ _ h => CmdM.imp (fun _ _ => trivial) hk _ _ _ h)
  clear hW6 hal
  go_wp2_with (first
    | (at_builtin; refine app_cmds _ rfl _ _ rfl w.heap.size 5 (.slice (some ⟨w5.heap.size + 1, 0, none⟩) 1 1) [oddC] CS rfl ?k1 b1 o1 c1 (fun b => w.heap.size ≤ b ∧ b < w1.heap.size) rfl ?k2 ?k4 hpos ?k5 ?k3 _ rfl ?_)
    | fail)
  case k1 => rw [← HWE.out]; exact HO6.out
  case k2 => rw [← HWE.out]; exact HC6.out
  case k3 => rw [← HWE.out]; omega
  case k4 => exact fun b hb => ⟨hb.1, fun e => by have h1 : b = w5.heap.size + 1 := Option.some.inj e; have := hb.2; omega⟩
  case k5 => simp; omega
  rw [← HWE.out]
  intro g7 cap7 w7 hown7 hcap7 hgrow7 hat7 hlt7
  have hgs7 := hgrow7.size
  have hown7' : OwnCs w.heap.size 5 w7 (.slice (some ⟨g7, 0, none⟩) (oddC :: CS).length cap7) (oddC :: CS) := by
    rw [List.length_cons, Nat.add_comm]
    exact hown7
  have HM7 := hid (show CmdsM anyB 5 w7 (.slice (some ⟨g7, 0, none⟩) (oddC :: CS).length cap7) (oddC :: CS) from CmdsM.any (OwnRow.rowM (firm_cmd 5) hown7' (by unfold maxLen; simp; omega)))
  have HB7 := hid (show Below w.heap.size w w7 from HB6.out.grown hgrow7 (by omega) (fun j hj => by have h1 : w5.heap.size + 1 = j := Option.some.inj hj; omega))
  have HL7 := hid (HK6.out w7 hgrow7)
  have HLE := hid (show (Value.slice (some ⟨g7, 0, none⟩) (1 + CS.length) cap7) = .slice (some ⟨g7, 0, none⟩) (oddC :: CS).length cap7 by simp [Nat.add_comm])
  have hcap8 : (oddC :: CS).length ≤ cap7 := by simp at hcap7 ⊢; omega
  have HSO := hid (show ∀ x ∈ oddC :: CS, ShortC 5 x from fun x hx => by
    rcases List.mem_cons.1 hx with e | e
    · rw [e]; exact ⟨(fun h => by cases h), (fun x hx => by cases hx), fun x hx => by cases hx⟩
    · exact HS.out x e)
  rw [HLE.out]
  clear hown7 hown7' hgrow7 hat7 HWE HLE
  obtain ⟨OT, hOT⟩ : ∃ OT, OT = oddC :: CS := ⟨_, rfl⟩
  rw [← hOT] at HM7 HSO hcap8 HR2
  rw [← hOT]
  clear hOT
  go_wp2_with fail
  refine (rcheck_some 4 LT g5 0 cap5 w7 (HM.out.1.next HB7.out) hcap5 HSL.out HL7.out).mono ?_
  rintro e w8 ⟨rfl, hb8⟩
  simp only
  have HB8 := hid (HB7.out.trans (hb8.mono HB7.out.size))
  have HM8 := hid (CmdsM.next HM7.out hb8)
  clear hb8
  obtain ⟨y, hy⟩ : ∃ y, y = ruleM (4 + 1) LT := ⟨_, rfl⟩
  have HY := hid (show y = 3 ∨ y = 5 by rw [hy]; exact HR1.out)
  rw [← hy]
  clear hy
  go_wp2_with fail
  refine (rcheck_some 4 OT g7 0 cap7 w8 (HM.out.1.next HB8.out) hcap8 HSO.out HM8.out).mono ?_
  rintro e w9 ⟨rfl, hb9⟩
  simp only
  have HB9 := hid (HB8.out.trans (hb9.mono HB8.out.size))
  clear hb9
  obtain ⟨z, hz⟩ : ∃ z, z = ruleM (4 + 1) OT := ⟨_, rfl⟩
  have HZ := hid (show z = 7 ∨ z = 5 by rw [hz]; exact HR2.out)
  rw [← hz]
  clear hz
  rcases HY.out with hy | hy <;> rcases HZ.out with hz | hz
  all_goals
    subst hy
    subst hz
    go_wp2
    go_ret
    exact ⟨rfl, HB9.out⟩
end Go.Proofs.YtgbhaphgojlhaaaDoor
