/-
  What stands behind a Stop does not matter: walked.
-/
import Derived.Test.YtmnlaijggoojkaaGreatDoorJudStp
import Derived.Test.YtmnlaijggoojkaaGreatDoorJudSame
import Derived.Test.YtmnlaijggoojkaaGreatDoorLtrMsg
import Derived.Test.YtmnlaijggoojkaaGreatDoorRulTabs
import Derived.Deep.DeepCutAuto
namespace Go.Proofs.YtmnlaijggoojkaaGreatDoor
open Go.RowKit Go.Proofs

theorem some_rowJ {Q : Nat → Prop} {n : Nat} {w : World} {a : Option Addr} {c : Nat} {x : Cmd} {r : List Cmd} {m : Nat} (h : CmdsM Q n w (.slice a m c) (x :: r)) : ∃ b o, a = some ⟨b, o, none⟩ := by
  obtain ⟨a', c', hv, _, hr⟩ := h
  simp only [Value.slice.injEq] at hv
  obtain ⟨b, o, _, ha, _⟩ := hr 0 x rfl
  exact ⟨b, o, by rw [hv.1, ha]⟩
/-- Judging a list of commands that begins with a Require of all, whether it is too long or not. -/
def JudgeC (o : Opn) (w : World) : Prop := ∀ (r : List Cmd) (a : Option Addr) (k : Nat) (u : World), Below w.heap.size w u → (∀ x ∈ r, NC x) → (∀ x ∈ r, faultCmd 5 0 x = 0) → (reqC :: r).length ≤ k → CmdsM anyB 5 u (.slice a (reqC :: r).length k) (reqC :: r) →
    (ruleM 5 (reqC :: r) = 0 ∧ Calls Tryz.prog 18 #[.slice a (reqC :: r).length k, .agg #[.string (S o.fl), .string (S o.fd), .string (S o.tl), .string (S o.td), .string (S o.tx)]] u (CrsR u (judgeP o 5 (reqC :: r)))) ∨ (ruleM 5 (reqC :: r) = 5 ∧ Calls Tryz.prog 18 #[.slice a (reqC :: r).length k, .agg #[.string (S o.fl), .string (S o.fd), .string (S o.tl), .string (S o.td), .string (S o.tx)]] u fun e w' => e = .returned (.tuple #[.agg #[.slice none 0 0, .int .i64 0, .bool false, .int .i64 0], .int .i64 5]) ∧ Below u.heap.size u w')
theorem judgeC_of (o : Opn) (ho : Opened o) (w : World) (hm : TabsM w) : JudgeC o w := by
  intro r a k u hu hN hf hk hC
  rcases rule_nice (n := 4) hN hf with h | h
  · exact .inl ⟨h, Judge_ok 4 (reqC :: r) a k o u (hm.1.next hu) (maxLenCell_below hm.2 hu) ho hk (fun e => by cases e) (short_scr hN _) hC h (good_scr hN _)⟩
  · exact .inr ⟨h, Judge_bad 4 (reqC :: r) a k o u (hm.1.next hu) hk (fun e => by cases e) (short_scr hN _) hC 5 h (by omega)⟩

set_option maxHeartbeats 4000000 in
set_option maxRecDepth 100000 in
theorem judgeStop_walk (w : World) (hm : TabsM w) (fl fd fg tl td tg : ByteArray) (a : Option Addr) (c : Nat) (fs : List F) (body : ByteArray) (hF : FieldsAt w a fs) (hL : fs.length ≤ maxLen) (hB : ∀ f ∈ fs, f.1.length ≤ maxLen ∧ f.2.length ≤ maxLen) (hY : body.size ≤ maxLen) (s1 : fl.size ≤ maxLen) (s2 : fd.size ≤ maxLen) (s3 : tl.size ≤ maxLen) (s4 : td.size ≤ maxLen) (al : Option Addr) (cl : Nat) (l : List Stk) (n : Nat) (hS : SticksM n w (.slice al l.length cl) l) (am : Option Addr) (cm : Nat) (m : List Stk) (n' : Nat) (hS' : SticksM n' w (.slice am m.length cm) m) :
    Calls Tryz.prog 7 #[.agg #[.string fl, .string fd, .string fg, .string tl, .string td, .string tg, .slice a fs.length c, .string body], .slice al l.length cl, .slice am m.length cm] w fun e w' => e = .returned (.bool true) ∧ Below w.heap.size w w' := by
  have HM := hid hm
  have HSt := hid hS
  have HSm := hid hS'
  obtain ⟨o, ho⟩ : ∃ o, o = ltrO fl fd tl td fs body := ⟨_, rfl⟩
  have HO := hid (show Opened o by rw [ho]; exact ltr_opened _ _ _ _ _ _)
  have HJC := hid (judgeC_of o HO.out w hm)
  obtain ⟨W0, hW0⟩ : ∃ W0, W0 = w.alloc (.cells #[.string fl, .string fd, .string fg, .string tl, .string td, .string tg, .slice a fs.length c, .string body] 26) := ⟨_, rfl⟩
  have HWE := hid hW0
  have HB0 := hid (show Below w.heap.size w W0 by rw [hW0]; exact (Below.refl _ _).alloc (Nat.le_refl _) _)
  have HLt := hid (show Calls Tryz.prog 9 #[.agg #[.string fl, .string fd, .string fg, .string tl, .string td, .string tg, .slice a fs.length c, .string body]] W0 (LtrP W0 o) by
    rw [ho]
    exact letter_ok fl fd fg tl td tg a c fs body W0 (hF.below HB0.out) hL hB hY s1 s2 s3 s4 (maxLenCell_below hm.2 HB0.out))
  have hmm := hS'.small
  clear hm hF hL hB hY s1 s2 s3 s4 hW0 ho hS hS'
  go_enter Tryz.func7, Tryz.ntmps7
  go_wp2_with fail
  rw [← HWE.out]
  refine HLt.out.mono ?_
  rintro e w1 ⟨he, hb1⟩
  rw [show e = .returned (.tuple #[.agg #[.string (S o.fl), .string (S o.fd), .string (S o.tl), .string (S o.td), .string (S o.tx)], .bool true]) from he]
  simp only
  obtain ⟨W1, hW1⟩ : ∃ W1, W1 = w1.alloc (.cells #[.string (S o.fl), .string (S o.fd), .string (S o.tl), .string (S o.td), .string (S o.tx)] 33) := ⟨_, rfl⟩
  have HWE1 := hid hW1
  have HB1 := hid (show Below w.heap.size w W1 by
    have h := HB0.out.trans (hb1.mono HB0.out.size)
    rw [hW1]; exact h.alloc h.size _)
  have HX1 := hid (show W1.heap[w1.heap.size]? = some (.cells #[.string (S o.fl), .string (S o.fd), .string (S o.tl), .string (S o.td), .string (S o.tx)] 33) by rw [hW1]; exact tl_at _ rfl)
  obtain ⟨LB, hLB⟩ : ∃ LB, LB = w1.heap.size := ⟨_, rfl⟩
  have HLB := hid hLB
  rw [← hLB] at HX1
  have HSC := hid (script_any 5 (by omega) cmds0 n l al cl W1 (HM.out.1.1.next HB1.out) (SticksM.next HSt.out HB1.out))
  clear he hb1 hW1 HWE hLB
  go_wp2_with fail
  rw [← HWE1.out, ← HLB.out]
  refine HSC.out.mono ?_
  rintro e w2 ⟨r, a2, c2, rfl, hM2, hN2, hck2, ⟨hcap2, hr4⟩, hb2⟩
  obtain ⟨b2, o2, rfl⟩ := some_rowJ hM2
  obtain ⟨CS, hCS⟩ : ∃ CS, CS = reqC :: r := ⟨_, rfl⟩
  have hlen : r.length + 1 = CS.length := by rw [hCS]; rfl
  have HCSE := hid hCS
  have HB2 := hid (HB1.out.trans (hb2.mono HB1.out.size))
  have HX2 := hid (tl_low hb2 HX1.out)
  have HN2 := hid hN2
  have HF2 := hid (show ∀ x ∈ r, faultCmd 5 0 x = 0 from fun x hx => (checkM_ok hck2).1 x (by simp [hx]))
  have HCK := hid hck2
  rw [← hCS] at hM2
  have HC2 := hid (show CmdsM (fun b => w.heap.size ≤ b ∧ b < w2.heap.size) 5 w2 (.slice (some ⟨b2, o2, none⟩) CS.length c2) CS from RowM.imp (RowM.both hM2 (CmdM.both 5)) (fun b hb => ⟨Nat.le_trans HB1.out.size hb.1, hb.2⟩) (Keeps.refl _ _) fun _ _ h => CmdM.imp (fun b hb => ⟨Nat.le_trans HB1.out.size hb.1, hb.2⟩) (Keeps.refl _ _) _ _ _ h)
  have hpos : 0 < CS.length := by omega
  rw [hlen]
  have hcap' : CS.length ≤ c2 := by omega
  have hlen5 : CS.length ≤ 5 := by omega
  have hs0 := HB2.out.size
  clear hM2 hN2 hck2 hb2 hCS hlen hcap2 hr4 HWE1 HLB HSC
  go_wp2_with (first
    | (at_builtin; refine app_cmds _ rfl _ _ rfl w.heap.size 5 (.slice none 0 0) [] CS rfl ?k1 b2 o2 c2 (fun b => w.heap.size ≤ b ∧ b < w2.heap.size) rfl ?k2 ?k4 hpos ?k5 ?k3 _ rfl ?_)
    | fail)
  case k1 => exact OwnRow.nil _ _ _ _ _
  case k2 => exact HC2.out
  case k3 => exact hs0
  case k4 => exact fun b hb => ⟨hb.1, fun e => by cases e⟩
  case k5 => simp; omega
  intro g3 cap3 w3 hown3 hcap3 hgrow3 hat3 hlt3
  have hgs3 := hgrow3.size
  have hg3 : w2.heap.size ≤ g3 := by
    rcases hat3 with e | e
    · cases e
    · omega
  have HB3 := hid (show Below w.heap.size w w3 from HB2.out.grown hgrow3 hs0 (fun j hj => by cases hj))
  have HX3 := hid (grown_heap hgrow3 HX2.out (fun e => by cases e))
  have HC3 := hid (show CmdsM (fun b => w.heap.size ≤ b ∧ b < w2.heap.size) 5 w3 (.slice (some ⟨b2, o2, none⟩) CS.length c2) CS from RowM.imp HC2.out (fun _ h => h) (Keeps.of_grown hgrow3 fun b hb e => by cases e) fun _ _ h => CmdM.imp (fun _ h => h) (Keeps.of_grown hgrow3 fun b hb e => by cases e) _ _ _ h)
  have HO3 := hid hown3
  clear hgrow3 hown3 hat3
  obtain ⟨W4, hW4⟩ : ∃ W4, W4 = w3.alloc (.cells #[.int .i64 10, .slice none 0 0, .int .i64 0, .int .i64 0, .int .i64 0, .slice none 0 0, .slice none 0 0, .bool false, .int .i64 0, .slice none 0 0, .slice none 0 0, .slice none 0 0] 60) := ⟨_, rfl⟩
  have HWE4 := hid hW4
  have hal4 : Below w3.heap.size w3 W4 := by rw [hW4]; exact (Below.refl _ _).alloc (Nat.le_refl _) _
  have hs4 : W4.heap.size = w3.heap.size + 1 := by rw [hW4]; simp
  have HB4 := hid (HB3.out.trans (hal4.mono HB3.out.size))
  have HO4 := hid (OwnRow.nextC HO3.out hal4)
  have HX4 := hid (tl_low hal4 HX3.out)
  have HC4 := hid (CmdsM.next HC3.out hal4)
  have HT4 := hid (show CmdsM (fun b => w3.heap.size ≤ b) 5 W4 (.slice (some ⟨w3.heap.size, 0, none⟩) [stopC].length 1) [stopC] from rowM_one (t := 60) (fr := (0, 0)) (cs := [.int .i64 10, .slice none 0 0, .int .i64 0, .int .i64 0, .int .i64 0, .slice none 0 0, .slice none 0 0, .bool false, .int .i64 0, .slice none 0 0, .slice none 0 0, .slice none 0 0]) (by rw [hW4]; exact tl_at _ rfl) rfl (Nat.le_refl _) (stop_cmd _ _))
  clear hW4 hal4
  go_wp2_with (first
    | (at_builtin; refine app_cmds _ rfl _ _ rfl w.heap.size 5 (.slice (some ⟨g3, 0, none⟩) CS.length cap3) CS [stopC] rfl ?k1 w3.heap.size 0 1 (fun b => w3.heap.size ≤ b) rfl ?k2 ?k4 (by simp) ?k5 ?k3 _ rfl ?_)
    | fail)
  case k1 => rw [← HWE4.out]; simpa using HO4.out
  case k2 => rw [← HWE4.out]; exact HT4.out
  case k3 => rw [← HWE4.out]; omega
  case k4 => exact fun b hb => ⟨by have h2 : w3.heap.size ≤ b := hb; omega, fun e => by have h1 : b = g3 := Option.some.inj e; have h2 : w3.heap.size ≤ b := hb; omega⟩
  case k5 => simp; omega
  rw [← HWE4.out]
  intro g5 cap5 w5 hown5 hcap5 hgrow5 hat5 hlt5
  have hgs5 := hgrow5.size
  obtain ⟨ST, hST⟩ : ∃ ST, ST = CS ++ [stopC] := ⟨_, rfl⟩
  have HSTE := hid hST
  have hSl1 : CS.length + 1 = ST.length := by rw [hST]; simp
  rw [← hST, hSl1] at hown5
  rw [hSl1] at hcap5
  have HB5 := hid (show Below w.heap.size w w5 from HB4.out.grown hgrow5 (by omega) (fun j hj => by have h1 : g3 = j := Option.some.inj hj; omega))
  have hLBs : LB < w2.heap.size := (Array.getElem?_eq_some_iff.1 HX2.out).1
  have HX5 := hid (grown_heap hgrow5 HX4.out (fun e => by have h1 : LB = g3 := Option.some.inj e; omega))
  have HC5 := hid (show CmdsM (fun b => w.heap.size ≤ b ∧ b < w2.heap.size) 5 w5 (.slice (some ⟨b2, o2, none⟩) CS.length c2) CS from RowM.imp HC4.out (fun _ h => h) (Keeps.of_grown hgrow5 fun b hb e => by have h1 : b = g3 := Option.some.inj e; have := hb.2; omega) fun _ _ h => CmdM.imp (fun _ h => h) (Keeps.of_grown hgrow5 fun b hb e => by have h1 : b = g3 := Option.some.inj e; have := hb.2; omega) _ _ _ h)
  have hpS : 0 < ST.length := by omega
  have hST6 : ST.length ≤ 6 := by omega
  have HT5 := hid (show CmdsM (fun b => w.heap.size ≤ b ∧ b < w5.heap.size) 5 w5 (.slice (some ⟨g5, 0, none⟩) ST.length cap5) ST from RowM.both (OwnRow.rowM (firm_cmd 5) hown5 (by unfold maxLen; omega)) (CmdM.both 5))
  have HCAP5 := hid hcap5
  rw [hSl1]
  clear hgrow5 hown5 hat5 HWE4 HO3 HO4 HT4 hST hSl1
  go_upto_region 4 with fail
  go_cut [11] (fun v wx => ∃ (L : List Cmd) (g8 cap8 : Nat), v = .slice (some ⟨g8, 0, none⟩) (ST.length + L.length) cap8 ∧ ST.length + L.length ≤ cap8 ∧ L.length ≤ 4 ∧ (∀ x ∈ L, NC x) ∧ (∀ x ∈ L, faultCmd 5 0 x = 0) ∧ Hid (CmdsM anyB 5 wx (.slice (some ⟨g8, 0, none⟩) (ST ++ L).length cap8) (ST ++ L)) ∧ Hid (Below w.heap.size w wx) ∧ Hid (wx.heap[LB]? = some (.cells #[.string (S o.fl), .string (S o.fd), .string (S o.tl), .string (S o.td), .string (S o.tx)] 33)) ∧ Hid (CmdsM anyB 5 wx (.slice (some ⟨b2, o2, none⟩) CS.length c2) CS) ∧ Hid (CmdsM anyB 5 wx (.slice (some ⟨g5, 0, none⟩) ST.length cap5) ST))
  case first =>
    go_wp2_with (first
      | (at_builtin; refine app_cmds _ rfl _ _ rfl w.heap.size 5 (.slice none 0 0) [] ST rfl ?k1 g5 0 cap5 (fun b => w.heap.size ≤ b ∧ b < w5.heap.size) rfl ?k2 ?k4 hpS ?k5 ?k3 _ rfl ?_)
      | fail)
    case k1 => exact OwnRow.nil _ _ _ _ _
    case k2 => exact HT5.out
    case k3 => exact HB5.out.size
    case k4 => exact fun b hb => ⟨hb.1, fun e => by cases e⟩
    case k5 => simp; omega
    intro g6 cap6 w6 hown6 hcap6 hgrow6 hat6 hlt6
    have hgs6 := hgrow6.size
    have hg6 : w5.heap.size ≤ g6 := by
      rcases hat6 with e | e
      · cases e
      · omega
    have hs5 := HB5.out.size
    have HB6 := hid (show Below w.heap.size w w6 from HB5.out.grown hgrow6 hs5 (fun j hj => by cases hj))
    have HX6 := hid (grown_heap hgrow6 HX5.out (fun e => by cases e))
    have HC6 := hid (show CmdsM (fun b => w.heap.size ≤ b ∧ b < w2.heap.size) 5 w6 (.slice (some ⟨b2, o2, none⟩) CS.length c2) CS from RowM.imp HC5.out (fun _ h => h) (Keeps.of_grown hgrow6 fun b hb e => by cases e) fun _ _ h => CmdM.imp (fun _ h => h) (Keeps.of_grown hgrow6 fun b hb e => by cases e) _ _ _ h)
    have HT6 := hid (show CmdsM (fun b => w.heap.size ≤ b ∧ b < w5.heap.size) 5 w6 (.slice (some ⟨g5, 0, none⟩) ST.length cap5) ST from RowM.imp HT5.out (fun _ h => h) (Keeps.of_grown hgrow6 fun b hb e => by cases e) fun _ _ h => CmdM.imp (fun _ h => h) (Keeps.of_grown hgrow6 fun b hb e => by cases e) _ _ _ h)
    have HO6 := hid hown6
    have HCM := hid (cmds2 n' m am cm w6 (SticksM.next HSm.out HB6.out))
    clear hgrow6 hown6 hat6 HC5 HT5 HX5
    go_wp2_with fail
    refine HCM.out.mono ?_
    rintro e w7 ⟨L, a7, c7, rfl, hL7, hNL, hL4, hLe, hb7⟩
    have HB7 := hid (HB6.out.trans (hb7.mono HB6.out.size))
    have HX7 := hid (tl_low hb7 HX6.out)
    have HC7 := hid (CmdsM.next HC6.out hb7)
    have HT7 := hid (CmdsM.next HT6.out hb7)
    have HO7 := hid (OwnRow.nextC HO6.out hb7)
    have HNL := hid hNL
    have HFL := hid (fault_row (n := 5) hL7 hNL (by omega))
    have hs7 := hb7.size
    have HL7 := hid (show CmdsM (newB' w6.heap.size) 5 w7 (.slice a7 L.length c7) L from RowM.imp hL7 (fun _ h => h) (Keeps.refl _ _) fun _ _ h => CmdM.more _ 5 _ _ (by omega) h)
    clear hL7 hNL hb7 HCM HO6 HC6 HT6 HX6

    by_cases hne : L = []
    · obtain ⟨rfl, rfl⟩ := hLe hne
      have hl0 : L.length = 0 := by rw [hne]; rfl
      have HE := hid (show CmdsM anyB 5 w7 (.slice (some ⟨g6, 0, none⟩) (ST ++ L).length cap6) (ST ++ L) by
        rw [hne, List.append_nil]
        exact CmdsM.any (OwnRow.rowM (firm_cmd 5) HO7.out (by unfold maxLen; omega)))
      rw [hl0]
      go_wp2
      go_meet
      exact ⟨L, g6, cap6, by rw [hl0]; rfl, by omega, hL4, HNL.out, HFL.out, HE, HB7, HX7, CmdsM.any HC7.out, CmdsM.any HT7.out⟩
    · have hLp : 0 < L.length := List.length_pos_iff.2 hne
      obtain ⟨b7, o7, rfl⟩ : ∃ b o, a7 = some ⟨b, o, none⟩ := by
        cases L with
        | nil => exact absurd rfl hne
        | cons x r' => exact some_rowJ HL7.out
      go_wp2_with (first
        | (at_builtin; refine app_cmds _ rfl _ _ rfl w.heap.size 5 (.slice (some ⟨g6, 0, none⟩) ST.length cap6) ST L rfl ?k1 b7 o7 c7 (newB' w6.heap.size) rfl ?k2 ?k4 hLp ?k5 ?k3 _ rfl ?_)
        | fail)
      case k1 => exact HO7.out
      case k2 => exact HL7.out
      case k3 => exact HB7.out.size
      case k4 => exact fun b hb => ⟨by have h2 : w6.heap.size ≤ b := hb; omega, fun e => by have h1 : b = g6 := Option.some.inj e; have h2 : w6.heap.size ≤ b := hb; omega⟩
      case k5 => omega
      intro g8 cap8 w8 hown8 hcap8 hgrow8 hat8 hlt8
      have HE := hid (show CmdsM anyB 5 w8 (.slice (some ⟨g8, 0, none⟩) (ST ++ L).length cap8) (ST ++ L) by
        rw [List.length_append]
        exact CmdsM.any (OwnRow.rowM (firm_cmd 5) hown8 (by unfold maxLen; simp; omega)))
      have HB8 := hid (show Below w.heap.size w w8 from HB7.out.grown hgrow8 HB7.out.size (fun j hj => by have h1 : g6 = j := Option.some.inj hj; omega))
      have HX8 := hid (grown_heap hgrow8 HX7.out (fun e => by have h1 : LB = g6 := Option.some.inj e; omega))
      have HC8 := hid (show CmdsM anyB 5 w8 (.slice (some ⟨b2, o2, none⟩) CS.length c2) CS from CmdsM.any (RowM.imp HC7.out (fun _ h => h) (Keeps.of_grown hgrow8 fun b hb e => by have h1 : b = g6 := Option.some.inj e; have := hb.2; omega) fun _ _ h => CmdM.imp (fun _ h => h) (Keeps.of_grown hgrow8 fun b hb e => by have h1 : b = g6 := Option.some.inj e; have := hb.2; omega) _ _ _ h))
      have HT8 := hid (show CmdsM anyB 5 w8 (.slice (some ⟨g5, 0, none⟩) ST.length cap5) ST from CmdsM.any (RowM.imp HT7.out (fun _ h => h) (Keeps.of_grown hgrow8 fun b hb e => by have h1 : b = g6 := Option.some.inj e; have := hb.2; omega) fun _ _ h => CmdM.imp (fun _ h => h) (Keeps.of_grown hgrow8 fun b hb e => by have h1 : b = g6 := Option.some.inj e; have := hb.2; omega) _ _ _ h))
      clear hgrow8 hown8 hat8
      go_wp2
      go_meet
      exact ⟨L, g8, cap8, rfl, hcap8, hL4, HNL.out, HFL.out, HE, HB8, HX8, HC8, HT8⟩
  case rest =>
    obtain ⟨L, g8, cap8, rfl, hcap8, hL4, hNL, hFL, HE8, HB8, HX8, HC8, HT8⟩ := hcut
    have HRL := hid (rule_nice (n := 4) (r := r ++ [stopC]) (fun x hx => by
      rcases List.mem_append.1 hx with e | e
      · exact HN2.out x e
      · simp at e; rw [e]; exact stop_nc) (fun x hx => by
      rcases List.mem_append.1 hx with e | e
      · exact HF2.out x e
      · simp at e; rw [e]; exact fault_stop 5))
    obtain ⟨cc, hcc⟩ : ∃ cc, cc = judgeP o 5 CS := ⟨_, rfl⟩
    have HOK := hid (show crsOk cc from hcc ▸ judge_ok o 5 CS)
    have hSTr : ST = reqC :: (r ++ [stopC]) := by rw [HSTE.out, HCSE.out]; rfl
    have hSLr : ST ++ L = reqC :: (r ++ [stopC] ++ L) := by rw [hSTr]; rfl
    have HN3 := hid (show ∀ x ∈ r ++ [stopC], NC x from fun x hx => by
      rcases List.mem_append.1 hx with e | e
      · exact HN2.out x e
      · simp at e; rw [e]; exact stop_nc)
    have HF3 := hid (show ∀ x ∈ r ++ [stopC], faultCmd 5 0 x = 0 from fun x hx => by
      rcases List.mem_append.1 hx with e | e
      · exact HF2.out x e
      · simp at e; rw [e]; exact fault_stop 5)
    have HN4 := hid (show ∀ x ∈ r ++ [stopC] ++ L, NC x from fun x hx => by
      rcases List.mem_append.1 hx with e | e
      · exact HN3.out x e
      · exact hNL x e)
    have HF4 := hid (show ∀ x ∈ r ++ [stopC] ++ L, faultCmd 5 0 x = 0 from fun x hx => by
      rcases List.mem_append.1 hx with e | e
      · exact HF3.out x e
      · exact hFL x e)
    have HU := hid (show ∀ u, Below wc.heap.size wc u → Below w.heap.size w u from fun u hu => HB8.out.trans (hu.mono HB8.out.size))
    have HJ1 := hid (show ∀ u, Below wc.heap.size wc u → Calls Tryz.prog 18 #[.slice (some ⟨b2, o2, none⟩) CS.length c2, .agg #[.string (S o.fl), .string (S o.fd), .string (S o.tl), .string (S o.td), .string (S o.tx)]] u (CrsR u cc) from fun u hu => by
      have hc := CmdsM.next HC8.out hu
      have h := HJC.out r (some ⟨b2, o2, none⟩) c2 u (HU.out u hu) HN2.out HF2.out (by rw [← HCSE.out]; exact hcap') (by rw [← HCSE.out]; exact hc)
      rw [← HCSE.out] at h
      rcases h with ⟨_, h⟩ | ⟨h5, _⟩
      · rw [hcc]; exact h
      · have := rule_allowed (n := 4) HCK.out fun x hx => (HN2.out x hx _).1
        rw [← HCSE.out, h5] at this
        cases this)
    have HR2 := hid (show (∀ u, Below wc.heap.size wc u → Calls Tryz.prog 18 #[.slice (some ⟨g5, 0, none⟩) ST.length cap5, .agg #[.string (S o.fl), .string (S o.fd), .string (S o.tl), .string (S o.td), .string (S o.tx)]] u (CrsR u cc)) ∨ (∀ u, Below wc.heap.size wc u → Calls Tryz.prog 18 #[.slice (some ⟨g5, 0, none⟩) ST.length cap5, .agg #[.string (S o.fl), .string (S o.fd), .string (S o.tl), .string (S o.td), .string (S o.tx)]] u fun e w' => e = .returned (.tuple #[.agg #[.slice none 0 0, .int .i64 0, .bool false, .int .i64 0], .int .i64 5]) ∧ Below u.heap.size u w') from by
      have hall := fun u (hu : Below wc.heap.size wc u) => HJC.out (r ++ [stopC]) (some ⟨g5, 0, none⟩) cap5 u (HU.out u hu) HN3.out HF3.out (by rw [← hSTr]; exact HCAP5.out) (by rw [← hSTr]; exact CmdsM.next HT8.out hu)
      rw [← hSTr] at hall
      rcases rule_nice (n := 4) HN3.out HF3.out with h0 | h0
      · left
        intro u hu
        rcases hall u hu with ⟨_, h⟩ | ⟨h5, _⟩
        · have e : judgeP o 5 ST = cc := by rw [hcc, HSTE.out]; exact judge_stop o 4 CS
          rw [e] at h
          exact h
        · rw [hSTr, h0] at h5; cases h5
      · right
        intro u hu
        rcases hall u hu with ⟨h5, _⟩ | ⟨_, h⟩
        · rw [hSTr, h0] at h5; cases h5
        · exact h)
    have HR3 := hid (show (∀ u, Below wc.heap.size wc u → Calls Tryz.prog 18 #[.slice (some ⟨g8, 0, none⟩) (ST.length + L.length) cap8, .agg #[.string (S o.fl), .string (S o.fd), .string (S o.tl), .string (S o.td), .string (S o.tx)]] u (CrsR u cc)) ∨ (∀ u, Below wc.heap.size wc u → Calls Tryz.prog 18 #[.slice (some ⟨g8, 0, none⟩) (ST.length + L.length) cap8, .agg #[.string (S o.fl), .string (S o.fd), .string (S o.tl), .string (S o.td), .string (S o.tx)]] u fun e w' => e = .returned (.tuple #[.agg #[.slice none 0 0, .int .i64 0, .bool false, .int .i64 0], .int .i64 5]) ∧ Below u.heap.size u w') from by
      have hall := fun u (hu : Below wc.heap.size wc u) => HJC.out (r ++ [stopC] ++ L) (some ⟨g8, 0, none⟩) cap8 u (HU.out u hu) HN4.out HF4.out (by rw [← hSLr, List.length_append]; exact hcap8) (by rw [← hSLr]; exact CmdsM.next HE8.out hu)
      rw [← hSLr, List.length_append] at hall
      rcases rule_nice (n := 4) HN4.out HF4.out with h0 | h0
      · left
        intro u hu
        rcases hall u hu with ⟨_, h⟩ | ⟨h5, _⟩
        · have e : judgeP o 5 (ST ++ L) = cc := by rw [hcc, HSTE.out]; exact judge_more o 4 CS L
          rw [e] at h
          exact h
        · rw [hSLr, h0] at h5; cases h5
      · right
        intro u hu
        rcases hall u hu with ⟨h5, _⟩ | ⟨_, h⟩
        · rw [hSLr, h0] at h5; cases h5
        · exact h)
    have HES := hid (end_some cc)
    clear hNL hFL hcc hSTr hSLr hcap8 hL4 HRL
    have hX9 := HX8.out
    have l90 := tl_cell (j := 0) hX9 rfl
    have l91 := tl_cell (j := 1) hX9 rfl
    have l92 := tl_cell (j := 2) hX9 rfl
    have l93 := tl_cell (j := 3) hX9 rfl
    have l94 := tl_cell (j := 4) hX9 rfl
    have HC9 := hid (HJ1.out wc (Below.refl wc.heap.size wc))
    clear hX9
    go_wp2_with fail
    refine HC9.out.mono ?_
    rintro e w9 ⟨a9, k9, he, hA, hn, hb⟩
    rw [show e = .returned (.tuple #[.agg #[.slice a9 cc.acts.length k9, .int .i64 cc.flags, .bool cc.asked, .int .i64 cc.fault], .int .i64 0]) from he]
    simp only
    obtain ⟨W9, hW9⟩ : ∃ W9, W9 = w9.alloc (.cells #[.slice a9 cc.acts.length k9, .int .i64 cc.flags, .bool cc.asked, .int .i64 cc.fault] 64) := ⟨_, rfl⟩
    have HWE9 := hid hW9
    have hal : Below w9.heap.size w9 W9 := by rw [hW9]; exact (Below.refl _ _).alloc (Nat.le_refl _) _
    have HS9 := hid (hb.trans (hal.mono hb.size))
    have HD9 := hid (show Below wc.heap.size wc W9 from (Below.refl wc.heap.size wc).trans (HS9.out.mono (Below.refl wc.heap.size wc).size))
    have HX9 := hid (tl_low HS9.out HX8.out)
    have HK9 := hid (show W9.heap[w9.heap.size]? = some (.cells #[.slice a9 cc.acts.length k9, .int .i64 cc.flags, .bool cc.asked, .int .i64 cc.fault] 64) by rw [hW9]; exact tl_at _ rfl)
    have HA9 := hid (AtnsM.next hA hal)
    have HN9 := hid hn
    clear he hA hn hb hal hW9
    rcases HR2.out with h2 | h2
    · have H2 := hid h2
      clear h2
      have hX10 := HX9.out
      rw [HWE9.out] at hX10
      have l100 := tl_cell (j := 0) hX10 rfl
      have l101 := tl_cell (j := 1) hX10 rfl
      have l102 := tl_cell (j := 2) hX10 rfl
      have l103 := tl_cell (j := 3) hX10 rfl
      have l104 := tl_cell (j := 4) hX10 rfl
      have HC10 := hid (H2.out W9 HD9.out)
      clear hX10
      go_wp2_with fail
      rw [← HWE9.out]
      refine HC10.out.mono ?_
      rintro e w10 ⟨a10, k10, he, hA, hn, hb⟩
      rw [show e = .returned (.tuple #[.agg #[.slice a10 cc.acts.length k10, .int .i64 cc.flags, .bool cc.asked, .int .i64 cc.fault], .int .i64 0]) from he]
      simp only
      obtain ⟨W10, hW10⟩ : ∃ W10, W10 = w10.alloc (.cells #[.slice a10 cc.acts.length k10, .int .i64 cc.flags, .bool cc.asked, .int .i64 cc.fault] 64) := ⟨_, rfl⟩
      have HWE10 := hid hW10
      have hal : Below w10.heap.size w10 W10 := by rw [hW10]; exact (Below.refl _ _).alloc (Nat.le_refl _) _
      have HS10 := hid (hb.trans (hal.mono hb.size))
      have HD10 := hid (show Below wc.heap.size wc W10 from (HD9.out).trans (HS10.out.mono (HD9.out).size))
      have HX10 := hid (tl_low HS10.out HX9.out)
      have HK10 := hid (show W10.heap[w10.heap.size]? = some (.cells #[.slice a10 cc.acts.length k10, .int .i64 cc.flags, .bool cc.asked, .int .i64 cc.fault] 64) by rw [hW10]; exact tl_at _ rfl)
      have HA10 := hid (AtnsM.next hA hal)
      have HN10 := hid hn
      clear he hA hn hb hal hW10
      have HK9b := hid (tl_low HS10.out HK9.out)
      have HA9b := hid (AtnsM.next HA9.out HS10.out)
      rcases HR3.out with h3 | h3
      · have H3 := hid h3
        clear h3
        have hX11 := HX10.out
        rw [HWE10.out] at hX11
        have l110 := tl_cell (j := 0) hX11 rfl
        have l111 := tl_cell (j := 1) hX11 rfl
        have l112 := tl_cell (j := 2) hX11 rfl
        have l113 := tl_cell (j := 3) hX11 rfl
        have l114 := tl_cell (j := 4) hX11 rfl
        have HC11 := hid (H3.out W10 HD10.out)
        clear hX11
        go_wp2_with fail
        rw [← HWE10.out]
        refine HC11.out.mono ?_
        rintro e w11 ⟨a11, k11, he, hA, hn, hb⟩
        rw [show e = .returned (.tuple #[.agg #[.slice a11 cc.acts.length k11, .int .i64 cc.flags, .bool cc.asked, .int .i64 cc.fault], .int .i64 0]) from he]
        simp only
        obtain ⟨W11, hW11⟩ : ∃ W11, W11 = w11.alloc (.cells #[.slice a11 cc.acts.length k11, .int .i64 cc.flags, .bool cc.asked, .int .i64 cc.fault] 64) := ⟨_, rfl⟩
        have HWE11 := hid hW11
        have hal : Below w11.heap.size w11 W11 := by rw [hW11]; exact (Below.refl _ _).alloc (Nat.le_refl _) _
        have HS11 := hid (hb.trans (hal.mono hb.size))
        have HD11 := hid (show Below wc.heap.size wc W11 from (HD10.out).trans (HS11.out.mono (HD10.out).size))
        have HX11 := hid (tl_low HS11.out HX10.out)
        have HK11 := hid (show W11.heap[w11.heap.size]? = some (.cells #[.slice a11 cc.acts.length k11, .int .i64 cc.flags, .bool cc.asked, .int .i64 cc.fault] 64) by rw [hW11]; exact tl_at _ rfl)
        have HA11 := hid (AtnsM.next hA hal)
        have HN11 := hid hn
        clear he hA hn hb hal hW11
        have HB11 := hid (HU.out W11 HD11.out)
        have HA9c := hid (AtnsM.next HA9b.out HS11.out)
        have HA10c := hid (AtnsM.next HA10.out HS11.out)
        have HK9c := hid (tl_low HS11.out HK9b.out)
        have HK10c := hid (tl_low HS11.out HK10.out)
        have hx9 := HK9c.out
        rw [HWE11.out] at hx9
        have x0 := tl_cell (j := 0) hx9 rfl
        have x1 := tl_cell (j := 1) hx9 rfl
        have x2 := tl_cell (j := 2) hx9 rfl
        have x3 := tl_cell (j := 3) hx9 rfl
        have HEN := hid (End_ok cc a9 k9 W11 HA9c.out HN9.out HOK.out)
        clear hx9
        go_wp2_with fail
        rw [← HWE11.out]
        refine HEN.out.mono ?_
        rintro e w12 ⟨a12, k12, he, hA12, hb12⟩
        rw [show e = .returned (.tuple #[.slice a12 (endP cc).length k12, .int .i64 0]) from he]
        simp only
        have HB12 := hid (HB11.out.trans (hb12.mono HB11.out.size))
        have hy9 := tl_low hb12 HK9c.out
        have hy10 := tl_low hb12 HK10c.out
        have HK9d := hid hy9
        have HK10d := hid hy10
        have HK11d := hid (tl_low hb12 HK11.out)
        have x9_0 := tl_cell (j := 0) hy9 rfl
        have x9_1 := tl_cell (j := 1) hy9 rfl
        have x9_2 := tl_cell (j := 2) hy9 rfl
        have x9_3 := tl_cell (j := 3) hy9 rfl
        have x10_0 := tl_cell (j := 0) hy10 rfl
        have x10_1 := tl_cell (j := 1) hy10 rfl
        have x10_2 := tl_cell (j := 2) hy10 rfl
        have x10_3 := tl_cell (j := 3) hy10 rfl
        have HSA := hid (sameCourse_any a9 a10 k9 k10 cc w12 (AtnsM.next HA9c.out hb12) (AtnsM.next HA10c.out hb12) HOK.out.1)
        have HA10d := hid (AtnsM.next HA10c.out hb12)
        have HA11d := hid (AtnsM.next HA11.out hb12)
        clear he hA12 hb12 hy9 hy10 x0 x1 x2 x3 HWE11
        go_wp2_with fail
        refine HSA.out.mono ?_
        rintro e w13 ⟨rfl, hb13⟩
        simp only
        have HB13 := hid (HB12.out.trans (hb13.mono HB12.out.size))
        have hz10 := tl_low hb13 HK10d.out
        have hz11 := tl_low hb13 HK11d.out
        have HK9e := hid (tl_low hb13 HK9d.out)
        have y10_0 := tl_cell (j := 0) hz10 rfl
        have y10_1 := tl_cell (j := 1) hz10 rfl
        have y10_2 := tl_cell (j := 2) hz10 rfl
        have y10_3 := tl_cell (j := 3) hz10 rfl
        have y11_0 := tl_cell (j := 0) hz11 rfl
        have y11_1 := tl_cell (j := 1) hz11 rfl
        have y11_2 := tl_cell (j := 2) hz11 rfl
        have y11_3 := tl_cell (j := 3) hz11 rfl
        have HSB := hid (sameCourse_any a10 a11 k10 k11 cc w13 (AtnsM.next HA10d.out hb13) (AtnsM.next HA11d.out hb13) HOK.out.1)
        clear hb13 hz10 hz11 x9_0 x9_1 x9_2 x9_3 x10_0 x10_1 x10_2 x10_3
        go_wp2_with fail
        refine HSB.out.mono ?_
        rintro e w14 ⟨rfl, hb14⟩
        simp only
        have HB14 := hid (HB13.out.trans (hb14.mono HB13.out.size))
        have hq9 := tl_low hb14 HK9e.out
        have q0 := tl_cell (j := 0) hq9 rfl
        have q1 := tl_cell (j := 1) hq9 rfl
        have q2 := tl_cell (j := 2) hq9 rfl
        have q3 := tl_cell (j := 3) hq9 rfl
        clear hb14 hq9 y10_0 y10_1 y10_2 y10_3 y11_0 y11_1 y11_2 y11_3
        rcases HES.out with h | h
        · have h1 : (0 : Int) < ((endP cc).length : Int) := by omega
          go_wp2
          go_ret
          exact ⟨rfl, HB14.out⟩
        · rw [h] at q2
          by_cases h0 : 0 < (endP cc).length
          · have h1 : (0 : Int) < ((endP cc).length : Int) := by omega
            go_wp2
            go_ret
            exact ⟨rfl, HB14.out⟩
          · have h1 : ¬ (0 : Int) < ((endP cc).length : Int) := by omega
            go_wp2
            go_ret
            exact ⟨rfl, HB14.out⟩
      · have H3 := hid h3
        clear h3
        have hX11 := HX10.out
        rw [HWE10.out] at hX11
        have l110 := tl_cell (j := 0) hX11 rfl
        have l111 := tl_cell (j := 1) hX11 rfl
        have l112 := tl_cell (j := 2) hX11 rfl
        have l113 := tl_cell (j := 3) hX11 rfl
        have l114 := tl_cell (j := 4) hX11 rfl
        have HC11 := hid (H3.out W10 HD10.out)
        clear hX11
        go_wp2_with fail
        rw [← HWE10.out]
        refine HC11.out.mono ?_
        rintro e w11 ⟨rfl, hb⟩
        simp only
        obtain ⟨W11, hW11⟩ : ∃ W11, W11 = w11.alloc (.cells #[.slice none 0 0, .int .i64 0, .bool false, .int .i64 0] 64) := ⟨_, rfl⟩
        have HWE11 := hid hW11
        have hal : Below w11.heap.size w11 W11 := by rw [hW11]; exact (Below.refl _ _).alloc (Nat.le_refl _) _
        have HS11 := hid (hb.trans (hal.mono hb.size))
        have HD11 := hid (show Below wc.heap.size wc W11 from (HD10.out).trans (HS11.out.mono (HD10.out).size))
        have HX11 := hid (tl_low HS11.out HX10.out)
        have HK11 := hid (show W11.heap[w11.heap.size]? = some (.cells #[.slice none 0 0, .int .i64 0, .bool false, .int .i64 0] 64) by rw [hW11]; exact tl_at _ rfl)
        clear hb hal hW11
        have HB11 := hid (HU.out W11 HD11.out)
        rw [HWE11.out] at HB11
        go_wp2
        go_ret
        exact ⟨rfl, HB11.out⟩
    · have H2 := hid h2
      clear h2
      have hX10 := HX9.out
      rw [HWE9.out] at hX10
      have l100 := tl_cell (j := 0) hX10 rfl
      have l101 := tl_cell (j := 1) hX10 rfl
      have l102 := tl_cell (j := 2) hX10 rfl
      have l103 := tl_cell (j := 3) hX10 rfl
      have l104 := tl_cell (j := 4) hX10 rfl
      have HC10 := hid (H2.out W9 HD9.out)
      clear hX10
      go_wp2_with fail
      rw [← HWE9.out]
      refine HC10.out.mono ?_
      rintro e w10 ⟨rfl, hb⟩
      simp only
      obtain ⟨W10, hW10⟩ : ∃ W10, W10 = w10.alloc (.cells #[.slice none 0 0, .int .i64 0, .bool false, .int .i64 0] 64) := ⟨_, rfl⟩
      have HWE10 := hid hW10
      have hal : Below w10.heap.size w10 W10 := by rw [hW10]; exact (Below.refl _ _).alloc (Nat.le_refl _) _
      have HS10 := hid (hb.trans (hal.mono hb.size))
      have HD10 := hid (show Below wc.heap.size wc W10 from (HD9.out).trans (HS10.out.mono (HD9.out).size))
      have HX10 := hid (tl_low HS10.out HX9.out)
      have HK10 := hid (show W10.heap[w10.heap.size]? = some (.cells #[.slice none 0 0, .int .i64 0, .bool false, .int .i64 0] 64) by rw [hW10]; exact tl_at _ rfl)
      clear hb hal hW10
      have HK9b := hid (tl_low HS10.out HK9.out)
      have HA9b := hid (AtnsM.next HA9.out HS10.out)
      rcases HR3.out with h3 | h3
      · have H3 := hid h3
        clear h3
        have hX11 := HX10.out
        rw [HWE10.out] at hX11
        have l110 := tl_cell (j := 0) hX11 rfl
        have l111 := tl_cell (j := 1) hX11 rfl
        have l112 := tl_cell (j := 2) hX11 rfl
        have l113 := tl_cell (j := 3) hX11 rfl
        have l114 := tl_cell (j := 4) hX11 rfl
        have HC11 := hid (H3.out W10 HD10.out)
        clear hX11
        go_wp2_with fail
        rw [← HWE10.out]
        refine HC11.out.mono ?_
        rintro e w11 ⟨a11, k11, he, hA, hn, hb⟩
        rw [show e = .returned (.tuple #[.agg #[.slice a11 cc.acts.length k11, .int .i64 cc.flags, .bool cc.asked, .int .i64 cc.fault], .int .i64 0]) from he]
        simp only
        obtain ⟨W11, hW11⟩ : ∃ W11, W11 = w11.alloc (.cells #[.slice a11 cc.acts.length k11, .int .i64 cc.flags, .bool cc.asked, .int .i64 cc.fault] 64) := ⟨_, rfl⟩
        have HWE11 := hid hW11
        have hal : Below w11.heap.size w11 W11 := by rw [hW11]; exact (Below.refl _ _).alloc (Nat.le_refl _) _
        have HS11 := hid (hb.trans (hal.mono hb.size))
        have HD11 := hid (show Below wc.heap.size wc W11 from (HD10.out).trans (HS11.out.mono (HD10.out).size))
        have HX11 := hid (tl_low HS11.out HX10.out)
        have HK11 := hid (show W11.heap[w11.heap.size]? = some (.cells #[.slice a11 cc.acts.length k11, .int .i64 cc.flags, .bool cc.asked, .int .i64 cc.fault] 64) by rw [hW11]; exact tl_at _ rfl)
        have HA11 := hid (AtnsM.next hA hal)
        have HN11 := hid hn
        clear he hA hn hb hal hW11
        have HB11 := hid (HU.out W11 HD11.out)
        rw [HWE11.out] at HB11
        go_wp2
        go_ret
        exact ⟨rfl, HB11.out⟩
      · have H3 := hid h3
        clear h3
        have hX11 := HX10.out
        rw [HWE10.out] at hX11
        have l110 := tl_cell (j := 0) hX11 rfl
        have l111 := tl_cell (j := 1) hX11 rfl
        have l112 := tl_cell (j := 2) hX11 rfl
        have l113 := tl_cell (j := 3) hX11 rfl
        have l114 := tl_cell (j := 4) hX11 rfl
        have HC11 := hid (H3.out W10 HD10.out)
        clear hX11
        go_wp2_with fail
        rw [← HWE10.out]
        refine HC11.out.mono ?_
        rintro e w11 ⟨rfl, hb⟩
        simp only
        obtain ⟨W11, hW11⟩ : ∃ W11, W11 = w11.alloc (.cells #[.slice none 0 0, .int .i64 0, .bool false, .int .i64 0] 64) := ⟨_, rfl⟩
        have HWE11 := hid hW11
        have hal : Below w11.heap.size w11 W11 := by rw [hW11]; exact (Below.refl _ _).alloc (Nat.le_refl _) _
        have HS11 := hid (hb.trans (hal.mono hb.size))
        have HD11 := hid (show Below wc.heap.size wc W11 from (HD10.out).trans (HS11.out.mono (HD10.out).size))
        have HX11 := hid (tl_low HS11.out HX10.out)
        have HK11 := hid (show W11.heap[w11.heap.size]? = some (.cells #[.slice none 0 0, .int .i64 0, .bool false, .int .i64 0] 64) by rw [hW11]; exact tl_at _ rfl)
        clear hb hal hW11
        have HB11 := hid (HU.out W11 HD11.out)
        rw [HWE11.out] at HB11
        go_wp2
        go_ret
        exact ⟨rfl, HB11.out⟩
end Go.Proofs.YtmnlaijggoojkaaGreatDoor
