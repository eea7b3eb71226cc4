/-
  Flags are those that were set last, and what was added since: walked.
-/
import Derived.Test.YtcphpnnhopflgaaGreatDoorJudFle
import Derived.Deep.RegionLaw
import Derived.Deep.RegionHeld3
import Derived.Deep.DeepCutAuto
namespace Go.Proofs.YtcphpnnhopflgaaGreatDoor
open Go.RowKit Go.Proofs

set_option maxHeartbeats 2000000 in
set_option maxRecDepth 100000 in
theorem judgeFlags_walk (w : World) (hm : TabsM w) (fl fd fg tl td tg : ByteArray) (a : Option Addr) (c : Nat) (fs : List F) (body : ByteArray) (hF : FieldsAt w a fs) (hL : fs.length ≤ maxLen) (hB : ∀ f ∈ fs, f.1.length ≤ maxLen ∧ f.2.length ≤ maxLen) (hY : body.size ≤ maxLen) (s1 : fl.size ≤ maxLen) (s2 : fd.size ≤ maxLen) (s3 : tl.size ≤ maxLen) (s4 : td.size ≤ maxLen) (an : Option Addr) (cn : Nat) (ns : List Int) (hN : NumsAt w an ns) (_ : ns.length ≤ maxLen) (hNw : ∀ z ∈ ns, (Lit.int .i64 z).wf = true) :
    Calls Tryz.prog 3 #[.agg #[.string fl, .string fd, .string fg, .string tl, .string td, .string tg, .slice a fs.length c, .string body], .slice an ns.length cn] w fun e w' => e = .returned (.bool true) ∧ Below w.heap.size w w' := by
  have HM := hid hm
  have HN := hid hN
  have HNw := hid hNw
  obtain ⟨o, ho⟩ : ∃ o, o = ltrO fl fd tl td fs body := ⟨_, rfl⟩
  have HO := hid (show Opened o by rw [ho]; exact ltr_opened _ _ _ _ _ _)
  obtain ⟨W0, hW0⟩ : ∃ W0, W0 = w.alloc (.cells #[.string fl, .string fd, .string fg, .string tl, .string td, .string tg, .slice a fs.length c, .string body] 26) := ⟨_, rfl⟩
  have HWE := hid hW0
  have HB0 := hid (show Below w.heap.size w W0 by rw [hW0]; exact (Below.refl _ _).alloc (Nat.le_refl _) _)
  have HLt := hid (show Calls Tryz.prog 4 #[.agg #[.string fl, .string fd, .string fg, .string tl, .string td, .string tg, .slice a fs.length c, .string body]] W0 (LtrP W0 o) by
    rw [ho]
    exact letter_ok fl fd fg tl td tg a c fs body W0 (hF.below HB0.out) hL hB hY s1 s2 s3 s4 (maxLenCell_below hm.2 HB0.out))
  clear hm hF hL hB hY s1 s2 s3 s4 hW0 ho hN hNw
  go_enter Tryz.func3, Tryz.ntmps3
  go_wp2_with fail
  rw [← HWE.out]
  refine HLt.out.mono ?_
  rintro e w1 ⟨he, hb1⟩
  rw [show e = .returned (.tuple #[.agg #[.string (S o.fl), .string (S o.fd), .string (S o.tl), .string (S o.td), .string (S o.tx)], .bool true]) from he]
  simp only
  obtain ⟨W1, hW1⟩ : ∃ W1, W1 = w1.alloc (.cells #[.string (S o.fl), .string (S o.fd), .string (S o.tl), .string (S o.td), .string (S o.tx)] 31) := ⟨_, rfl⟩
  have HWE1 := hid hW1
  obtain ⟨W2, hW2⟩ : ∃ W2, W2 = W1.alloc (.cells #[.string ⟨#[92, 83, 101, 101, 110]⟩, .string ⟨#[92, 65, 110, 115, 119, 101, 114, 101, 100]⟩, .string ⟨#[92, 70, 108, 97, 103, 103, 101, 100]⟩, .string ⟨#[92, 68, 101, 108, 101, 116, 101, 100]⟩, .string ⟨#[92, 68, 114, 97, 102, 116]⟩] 9) := ⟨_, rfl⟩
  have HWE2 := hid hW2
  have hs1 : W1.heap.size = w1.heap.size + 1 := by rw [hW1]; simp
  have hs2 : W2.heap.size = w1.heap.size + 2 := by rw [hW2]; simp; omega
  have HB2 := hid (show Below w.heap.size w W2 by
    have h := HB0.out.trans (hb1.mono HB0.out.size)
    rw [hW2, hW1]; exact (h.alloc h.size _).alloc (by have := h.size; simp; omega) _)
  obtain ⟨LB, hLB⟩ : ∃ LB, LB = w1.heap.size := ⟨_, rfl⟩
  have HLB := hid hLB
  have HX2 := hid (show W2.heap[LB]? = some (.cells #[.string (S o.fl), .string (S o.fd), .string (S o.tl), .string (S o.td), .string (S o.tx)] 31) by rw [hW2, hW1, hLB]; exact tl_old _ (tl_at _ rfl))
  have HA2 := hid (show W2.heap[LB + 1]? = some (.cells flgV 9) by rw [hW2, hLB]; exact tl_at _ hs1.symm)
  have HRQ := hid (requires_f W2)
  have hsz2 : W2.heap.size = LB + 2 := by omega
  clear he hb1 hW1 hW2 HWE hLB hs1 hs2
  go_wp2_with fail
  rw [← HWE1.out, ← HWE2.out]
  refine HRQ.out.mono ?_
  rintro e w3 ⟨v0, v1, v2, v3, v4, v5, v6, v7, v8, v9, v10, v11, rfl, hR3, hb3⟩
  have hs3 := hb3.size
  obtain ⟨W3, hW3⟩ : ∃ W3, W3 = w3.alloc (.cells #[v0, v1, v2, v3, v4, v5, v6, v7, v8, v9, v10, v11] 40) := ⟨_, rfl⟩
  have HWE3 := hid hW3
  have hal3 : Below w3.heap.size w3 W3 := by rw [hW3]; exact (Below.refl _ _).alloc (Nat.le_refl _) _
  have HD3 := hid (show Below W2.heap.size W2 W3 from hb3.trans (hal3.mono hs3))
  have HB3 := hid (show Below w.heap.size w W3 from HB2.out.trans (HD3.out.mono HB2.out.size))
  have HX3 := hid (tl_low HD3.out HX2.out)
  have HA3 := hid (tl_low HD3.out HA2.out)
  have HO3 := hid (show OwnCs W2.heap.size 3 W3 (.slice (some ⟨w3.heap.size, 0, none⟩) 1 1) [reqC] from own_reqF hR3 (Nat.le_refl _) hs3 hal3 (by rw [hW3]; exact tl_at _ rfl))
  obtain ⟨B, hBe⟩ : ∃ B, B = W2.heap.size := ⟨_, rfl⟩
  have HBL := hid (show B = LB + 2 by omega)
  have hwB : w.heap.size ≤ B := by rw [hBe]; exact HB2.out.size
  have hgB : B ≤ w3.heap.size := by omega
  rw [← hBe] at HO3
  clear hR3 hb3 hW3 hal3 hs3 hsz2 hBe HRQ HLt HB2 HX2 HA2 HD3
  go_upto_region 4 with fail
  rw [← HWE3.out]
  go_wp2_with fail
  rw [← HLB.out]
  clear HLB HWE1 HWE2 HWE3 HB0
  go_loopw [8, 9, 10] (fun v u i wr => ∃ (j g cap : Nat), j ≤ ns.length ∧ j ≤ 10 ∧ i = .int .i64 j ∧ u = .int .i64 (flgN (pks ns j) : Nat) ∧ v = .slice (some ⟨g, 0, none⟩) (j + 1) cap ∧ B ≤ g ∧ j + 1 ≤ cap ∧
      Hid (OwnCs B 3 wr (.slice (some ⟨g, 0, none⟩) (j + 1) cap) (flgS (pks ns j))) ∧ Hid (Below w.heap.size w wr) ∧ Hid (wr.heap[LB]? = some (.cells #[.string (S o.fl), .string (S o.fd), .string (S o.tl), .string (S o.td), .string (S o.tx)] 31)) ∧ Hid (wr.heap[LB + 1]? = some (.cells flgV 9)) ∧ Hid (B ≤ wr.heap.size)) (fun _ _ i _ => 10 - (intOf i).toNat)
  case atStart =>
    exact ⟨0, w3.heap.size, 1, Nat.zero_le _, by omega, rfl, rfl, rfl, hgB, Nat.le_refl _, (by rw [show flgS (pks ns 0) = [reqC] from rfl]; exact HO3), HB3, HX3, HA3, hid (by
      have h := (Array.getElem?_eq_some_iff.1 HA3.out).1
      have := HBL.out
      omega)⟩
  case round =>
    obtain ⟨j, g, cap, hj1, hj2, rfl, rfl, rfl, hBg, hcap, HO4, HB4, HX4, HA4, HS4⟩ := hrel
    by_cases hlt : j < ns.length ∧ j < 10
    · obtain ⟨hl, h10⟩ := hlt
      have i1 : (j : Int) < (ns.length : Int) := by omega
      have i2 : (j : Int) < 10 := by omega
      have i3 : (0 : Int) ≤ (j : Int) := by omega
      obtain ⟨z, hz⟩ : ∃ z, ns[j]? = some z := ⟨_, List.getElem?_eq_getElem hl⟩
      obtain ⟨bn, on, rfl, _, hzc⟩ := (HN.out.below HB4.out) j z hz
      have hzw := HNw.out z (List.mem_of_getElem? hz)
      obtain ⟨k, hk⟩ : ∃ k, k = pickN z 10 := ⟨_, rfl⟩
      have hk10 : k < 10 := by rw [hk]; exact pickN_lt z 10 (by omega)
      have HPS := hid (show pks ns (j + 1) = pks ns j ++ [k] by rw [hk]; exact pks_more hz)
      have HPK := hid (show ∀ v : World, Calls Tryz.prog 6 #[.int .i64 z, .int .i64 10] v fun e w' => e = .returned (.int .i64 (k : Nat)) ∧ w' = v from fun v => by rw [hk]; exact picked_any z 10 v hzw (by omega) (by omega))
      obtain ⟨i, hi⟩ : ∃ i, i = k / 2 := ⟨_, rfl⟩
      obtain ⟨r, hr⟩ : ∃ r, r = k % 2 := ⟨_, rfl⟩
      obtain ⟨hi5, hq1, hq3, hm1, hm3, hq4, hq5, hr2⟩ := flg_half hk10 hi hr
      have hfc := flgV_at HA4.out hi5
      have hsh := shl_one i hi5
      have hq6 : (k : Int) / 2 = (i : Int) := by rw [hi]; rfl
      have hm6 : (k : Int) % 2 = (r : Int) := by rw [hr]; rfl
      have HI := hid hi
      have HR := hid hr
      clear hz hzw hk hi hr
      go_wp2_with fail
      refine (HPK.out wr).mono ?_
      rintro e w' ⟨rfl, hw'⟩
      rw [hw']
      clear hw' w'
      by_cases hr1 : r = 1
      · subst hr1
        go_upto_region 14 with fail
        have HFC := hid (show flgC k = ⟨8, [flgA.getD i []], noneT, [], []⟩ by unfold flgC; rw [if_pos HR.out.symm, HI.out])
        have HLF := hid (show (flgS (pks ns j)).length = j + 1 by rw [flgS_len, pks_len hj1])
        have HG := hid (show g < wr.heap.size by
          obtain ⟨_, h1, _⟩ := HO4.out
          exact (World.ownsRow.lt h1 g rfl).2)
        have HAL := hid (show Below wr.heap.size wr (((wr.alloc (.cells #[.string (S (flgA[i]?.getD []))] 9)).alloc (.cells #[.int .i64 8, .slice (some ⟨wr.heap.size, 0, none⟩) 1 1, .int .i64 0, .int .i64 0, .int .i64 0, .slice none 0 0, .slice none 0 0, .bool false, .int .i64 0, .slice none 0 0, .slice none 0 0, .slice none 0 0] 40)).alloc (.cells #[.int .i64 8, .slice (some ⟨wr.heap.size, 0, none⟩) 1 1, .int .i64 0, .int .i64 0, .int .i64 0, .slice none 0 0, .slice none 0 0, .bool false, .int .i64 0, .slice none 0 0, .slice none 0 0, .slice none 0 0] 40)) from (((Below.refl _ _).alloc (Nat.le_refl _) _).alloc (by simp) _).alloc (by simp; omega) _)
        go_wp2_with (first
          | (at_builtin; refine app_cmds _ rfl _ _ rfl B 3 (.slice (some ⟨g, 0, none⟩) (j + 1) cap) (flgS (pks ns j)) [flgC k] rfl ?k1 (wr.heap.size + 2) 0 1 (fun b => wr.heap.size ≤ b) rfl ?k2 ?k4 (by simp) ?k5 ?k3 _ rfl ?_)
          | fail)
        case k1 => exact OwnRow.nextC HO4.out HAL.out
        case k2 => exact rowM_one (t := 40) (fr := (0, 0)) (cs := [.int .i64 8, .slice (some ⟨wr.heap.size, 0, none⟩) 1 1, .int .i64 0, .int .i64 0, .int .i64 0, .slice none 0 0, .slice none 0 0, .bool false, .int .i64 0, .slice none 0 0, .slice none 0 0, .slice none 0 0]) (tl_at _ (by simp)) rfl (by show wr.heap.size ≤ _; omega) (by rw [HFC.out]; exact flg_cmd (tl_old _ (tl_old _ (tl_at _ rfl))) (Nat.le_refl _))
        case k3 => exact Nat.le_trans HS4.out HAL.out.size
        case k4 => exact fun b hb => ⟨Nat.le_trans HS4.out hb, fun e => by have h1 : b = g := Option.some.inj e; have h2 : wr.heap.size ≤ b := hb; have := HG.out; omega⟩
        case k5 => rw [HLF.out]; simp; omega
        intro g5 cap5 w5 hown5 hcap5 hgrow5 hat5 hlt5
        have hl1 : (flgS (pks ns j)).length + 1 = j + 2 := by rw [HLF.out]
        rw [hl1] at hown5 hcap5
        rw [hl1]
        have hs5 := hgrow5.size
        have hal5 := HAL.out.size
        have HB5 := hid (show Below w.heap.size w w5 from (HB4.out.trans (HAL.out.mono HB4.out.size)).grown hgrow5 (Nat.le_trans HB4.out.size HAL.out.size) (fun q hq => by have h1 : g = q := Option.some.inj hq; omega))
        have HX5 := hid (grown_heap hgrow5 (tl_low HAL.out HX4.out) (fun e => by have h1 : LB = g := Option.some.inj e; have := HBL.out; omega))
        have HA5 := hid (grown_heap hgrow5 (tl_low HAL.out HA4.out) (fun e => by have h1 : LB + 1 = g := Option.some.inj e; have := HBL.out; omega))
        have hBg5 : B ≤ g5 := by
          rcases hat5 with e | e
          · have h1 : g = g5 := Option.some.inj e
            omega
          · have := HS4.out; omega
        have HS5 := hid (show B ≤ w5.heap.size by have := HS4.out; omega)
        have HO5 := hid (show OwnCs B 3 w5 (.slice (some ⟨g5, 0, none⟩) (j + 2) cap5) (flgS (pks ns (j + 1))) by rw [HPS.out, flgS_more]; exact hown5)
        have HVB := hid (show bits BinOp.or IntKind.i64 0 (wrap64 ((2 : Int) ^ i)) = ((2 ^ i : Nat) : Int) from (flg_or (f := 0) (by omega) hi5).trans (by rw [Nat.zero_or]))
        have HV5 := hid (show flgN (pks ns (j + 1)) = 2 ^ i by rw [HPS.out, flgN_more]; unfold flgX; rw [if_pos HR.out.symm, Nat.zero_or, HI.out])
        clear hown5 hgrow5 hat5 hlt5 hl1 hs5 hal5
        go_wp2
        go_roundw
        case rel =>
          exact ⟨j + 1, g5, cap5, by omega, by omega, by first | rfl | simp, by rw [HV5.out, HVB.out], rfl, hBg5, hcap5, HO5, HB5, HX5, HA5, HS5⟩
        case measure => simp [intOf]; omega
      · obtain rfl : r = 0 := by omega
        go_upto_region 14 with fail
        have HFC := hid (show flgC k = ⟨9, [flgA.getD i []], noneT, [], []⟩ by unfold flgC; rw [if_neg (by have := HR.out; omega), HI.out])
        have HLF := hid (show (flgS (pks ns j)).length = j + 1 by rw [flgS_len, pks_len hj1])
        have HG := hid (show g < wr.heap.size by
          obtain ⟨_, h1, _⟩ := HO4.out
          exact (World.ownsRow.lt h1 g rfl).2)
        have HAL := hid (show Below wr.heap.size wr (((wr.alloc (.cells #[.string (S (flgA[i]?.getD []))] 9)).alloc (.cells #[.int .i64 9, .slice (some ⟨wr.heap.size, 0, none⟩) 1 1, .int .i64 0, .int .i64 0, .int .i64 0, .slice none 0 0, .slice none 0 0, .bool false, .int .i64 0, .slice none 0 0, .slice none 0 0, .slice none 0 0] 40)).alloc (.cells #[.int .i64 9, .slice (some ⟨wr.heap.size, 0, none⟩) 1 1, .int .i64 0, .int .i64 0, .int .i64 0, .slice none 0 0, .slice none 0 0, .bool false, .int .i64 0, .slice none 0 0, .slice none 0 0, .slice none 0 0] 40)) from (((Below.refl _ _).alloc (Nat.le_refl _) _).alloc (by simp) _).alloc (by simp; omega) _)
        go_wp2_with (first
          | (at_builtin; refine app_cmds _ rfl _ _ rfl B 3 (.slice (some ⟨g, 0, none⟩) (j + 1) cap) (flgS (pks ns j)) [flgC k] rfl ?k1 (wr.heap.size + 2) 0 1 (fun b => wr.heap.size ≤ b) rfl ?k2 ?k4 (by simp) ?k5 ?k3 _ rfl ?_)
          | fail)
        case k1 => exact OwnRow.nextC HO4.out HAL.out
        case k2 => exact rowM_one (t := 40) (fr := (0, 0)) (cs := [.int .i64 9, .slice (some ⟨wr.heap.size, 0, none⟩) 1 1, .int .i64 0, .int .i64 0, .int .i64 0, .slice none 0 0, .slice none 0 0, .bool false, .int .i64 0, .slice none 0 0, .slice none 0 0, .slice none 0 0]) (tl_at _ (by simp)) rfl (by show wr.heap.size ≤ _; omega) (by rw [HFC.out]; exact flg_cmd (tl_old _ (tl_old _ (tl_at _ rfl))) (Nat.le_refl _))
        case k3 => exact Nat.le_trans HS4.out HAL.out.size
        case k4 => exact fun b hb => ⟨Nat.le_trans HS4.out hb, fun e => by have h1 : b = g := Option.some.inj e; have h2 : wr.heap.size ≤ b := hb; have := HG.out; omega⟩
        case k5 => rw [HLF.out]; simp; omega
        intro g5 cap5 w5 hown5 hcap5 hgrow5 hat5 hlt5
        have hl1 : (flgS (pks ns j)).length + 1 = j + 2 := by rw [HLF.out]
        rw [hl1] at hown5 hcap5
        rw [hl1]
        have hs5 := hgrow5.size
        have hal5 := HAL.out.size
        have HB5 := hid (show Below w.heap.size w w5 from (HB4.out.trans (HAL.out.mono HB4.out.size)).grown hgrow5 (Nat.le_trans HB4.out.size HAL.out.size) (fun q hq => by have h1 : g = q := Option.some.inj hq; omega))
        have HX5 := hid (grown_heap hgrow5 (tl_low HAL.out HX4.out) (fun e => by have h1 : LB = g := Option.some.inj e; have := HBL.out; omega))
        have HA5 := hid (grown_heap hgrow5 (tl_low HAL.out HA4.out) (fun e => by have h1 : LB + 1 = g := Option.some.inj e; have := HBL.out; omega))
        have hBg5 : B ≤ g5 := by
          rcases hat5 with e | e
          · have h1 : g = g5 := Option.some.inj e
            omega
          · have := HS4.out; omega
        have HS5 := hid (show B ≤ w5.heap.size by have := HS4.out; omega)
        have HO5 := hid (show OwnCs B 3 w5 (.slice (some ⟨g5, 0, none⟩) (j + 2) cap5) (flgS (pks ns (j + 1))) by rw [HPS.out, flgS_more]; exact hown5)
        have HVB := hid (flg_or (f := flgN (pks ns j)) (flgN_lt _ 0 (by omega) (pks_lt ns j)) hi5)
        have HV5 := hid (show flgN (pks ns (j + 1)) = flgN (pks ns j) ||| 2 ^ i by rw [HPS.out, flgN_more]; unfold flgX; rw [if_neg (by have := HR.out; omega), HI.out])
        clear hown5 hgrow5 hat5 hlt5 hl1 hs5 hal5
        go_wp2
        go_roundw
        case rel =>
          exact ⟨j + 1, g5, cap5, by omega, by omega, by first | rfl | simp, by rw [HV5.out, HVB.out], rfl, hBg5, hcap5, HO5, HB5, HX5, HA5, HS5⟩
        case measure => simp [intOf]; omega
    · have HKL0 := hid (pks_len hj1)
      have HK10 := hid (pks_lt ns j)
      have HV32 := hid (flgN_lt (pks ns j) 0 (by omega) (pks_lt ns j))
      rw [show (pks ns j).foldl flgX 0 = flgN (pks ns j) from rfl] at HV32
      have HLL := hid (show (flgS (pks ns j)).length = j + 1 by rw [flgS_len, pks_len hj1])
      generalize pks ns j = ks at *
      have HKL := hid (show ks.length = j from HKL0.out)
      obtain ⟨L, hL⟩ : ∃ L, L = flgS ks := ⟨_, rfl⟩
      have HLE := hid hL.symm
      obtain ⟨V, hV⟩ : ∃ V, V = flgN ks := ⟨_, rfl⟩
      have HVE := hid hV.symm
      rw [← hL] at HO4 HLL
      rw [← hV] at HV32
      rw [← hV]
      have HC4 := hid (own_cmds HO4.out (by have := HLL.out; omega))
      have HJ1 := hid (show Calls Tryz.prog 7 #[.slice (some ⟨g, 0, none⟩) (j + 1) cap, .agg #[.string (S o.fl), .string (S o.fd), .string (S o.tl), .string (S o.td), .string (S o.tx)]] wr (CrsR wr ⟨[], (V : Nat), false, 0⟩) by
        have h := judge_flg o HO.out 2 (ks.map flgC) (by
          intro x hx
          obtain ⟨k, hk, rfl⟩ := List.mem_map.1 hx
          exact flgC_is (HK10.out k hk)) (by have := HKL.out; simp; omega) (some ⟨g, 0, none⟩) cap wr (HM.out.1.next HB4.out) (maxLenCell_below HM.out.2 HB4.out) (by have := HKL.out; simp; omega)
        have e1 : (ks.map flgC).length + 1 = j + 1 := by have := HKL.out; simp; omega
        have e2 : reqC :: ks.map flgC = L := by rw [← HLE.out]; rfl
        rw [e1, e2] at h
        have h3 := h HC4.out
        rw [show judgeP o 3 L = ⟨[], (V : Nat), false, 0⟩ by rw [← HLE.out, ← HVE.out]; exact judge_one o 2 ks HK10.out] at h3
        exact h3)
      have hX4 := HX4.out
      have l0 : wr.cell? ⟨LB, 0, none⟩ = some (.string (S o.fl)) := tl_cell (j := 0) hX4 rfl
      have l1 : wr.cell? ⟨LB, 1, none⟩ = some (.string (S o.fd)) := tl_cell (j := 1) hX4 rfl
      have l2 : wr.cell? ⟨LB, 2, none⟩ = some (.string (S o.tl)) := tl_cell (j := 2) hX4 rfl
      have l3 : wr.cell? ⟨LB, 3, none⟩ = some (.string (S o.td)) := tl_cell (j := 3) hX4 rfl
      have l4 : wr.cell? ⟨LB, 4, none⟩ = some (.string (S o.tx)) := tl_cell (j := 4) hX4 rfl
      clear hL hV hX4 HKL0
      go_upto_region 6 with fail
      go_cut [34] from 27 to 61 (fun v wx => v = .bool false ∧ wx = wr)
      case first =>
        by_cases hl : j < ns.length
        · have k1 : (j : Int) < (ns.length : Int) := by omega
          have k2 : ¬ (j : Int) < 10 := by omega
          go_wp2_with fail
          go_meet
          exact ⟨by first | rfl | simp, rfl⟩
        · have k1 : ¬ (j : Int) < (ns.length : Int) := by omega
          go_wp2_with fail
          go_meet
          exact ⟨by first | rfl | simp, rfl⟩
      case rest =>
        obtain ⟨rfl, hwc⟩ := hcut
        rw [hwc]
        clear hwc
        go_wp2_with fail
        refine HJ1.out.mono ?_
        rintro e w5 ⟨a5, k5, he5, hA5, hn5, hb5⟩
        have he5' : e = .returned (.tuple #[.agg #[.slice a5 0 k5, .int .i64 (V : Nat), .bool false, .int .i64 0], .int .i64 0]) := he5
        subst he5'
        simp only
        obtain ⟨W6, hW6⟩ : ∃ W6, W6 = w5.alloc (.cells #[.slice a5 0 k5, .int .i64 (V : Nat), .bool false, .int .i64 0] 46) := ⟨_, rfl⟩
        have HWE6 := hid hW6
        have hB56 : Below w5.heap.size w5 W6 := by rw [hW6]; exact (Below.refl _ _).alloc (Nat.le_refl _) _
        have HD6 := hid (show Below wr.heap.size wr W6 from hb5.trans (hB56.mono hb5.size))
        have hX6 : W6.heap[w5.heap.size]? = some (.cells #[.slice a5 0 k5, .int .i64 (V : Nat), .bool false, .int .i64 0] 46) := by rw [hW6]; exact tl_at _ rfl
        have c0 : W6.cell? ⟨w5.heap.size, 0, none⟩ = some (.slice a5 0 k5) := tl_cell (j := 0) hX6 rfl
        have c1 : W6.cell? ⟨w5.heap.size, 1, none⟩ = some (.int .i64 (V : Nat)) := tl_cell (j := 1) hX6 rfl
        have c2 : W6.cell? ⟨w5.heap.size, 2, none⟩ = some (.bool false) := tl_cell (j := 2) hX6 rfl
        have c3 : W6.cell? ⟨w5.heap.size, 3, none⟩ = some (.int .i64 0) := tl_cell (j := 3) hX6 rfl
        have HEN := hid (show Calls Tryz.prog 8 #[.agg #[.slice a5 0 k5, .int .i64 (V : Nat), .bool false, .int .i64 0]] W6 (EndR W6 [⟨3, [], (V : Nat)⟩]) from End_ok ⟨[], (V : Nat), false, 0⟩ a5 k5 W6 (AtnsM.next hA5 hB56) hn5 ⟨by simp, by simp, by have := HV32.out; show ((V : Nat) : Int) ≤ 31; omega⟩)
        clear hA5 hn5 hb5 hW6 hB56 hX6 he5 HJ1
        go_upto_region 16 with fail
        rw [← HWE6.out]
        clear HWE6
        go_wp2_with fail
        refine HEN.out.mono ?_
        rintro e w7 ⟨a7, k7, he7, hA7, hb7⟩
        have he7' : e = .returned (.tuple #[.slice a7 1 k7, .int .i64 0]) := he7
        subst he7'
        simp only
        have hD7 : Below wr.heap.size wr w7 := HD6.out.trans (hb7.mono HD6.out.size)
        have HB7 := hid (show Below w.heap.size w w7 from HB4.out.trans (hD7.mono HB4.out.size))
        have HX7 := hid (tl_low hD7 HX4.out)
        have HN7 := hid (tl_low hD7 HA4.out)
        have HCL := hid (CmdsM.next HC4.out hD7)
        have HAT := hid hA7
        have hLB7 : LB + 1 < w7.heap.size := (Array.getElem?_eq_some_iff.1 HN7.out).1
        have hl7 := HX7.out
        have l0 : w7.cell? ⟨LB, 0, none⟩ = some (.string (S o.fl)) := tl_cell (j := 0) hl7 rfl
        have l1 : w7.cell? ⟨LB, 1, none⟩ = some (.string (S o.fd)) := tl_cell (j := 1) hl7 rfl
        have l2 : w7.cell? ⟨LB, 2, none⟩ = some (.string (S o.tl)) := tl_cell (j := 2) hl7 rfl
        have l3 : w7.cell? ⟨LB, 3, none⟩ = some (.string (S o.td)) := tl_cell (j := 3) hl7 rfl
        have l4 : w7.cell? ⟨LB, 4, none⟩ = some (.string (S o.tx)) := tl_cell (j := 4) hl7 rfl
        have HKS := hid (show ∀ u, Below w7.heap.size w7 u → (u.cell? ⟨LB, 0, none⟩ = some (.string (S o.fl)) ∧ u.cell? ⟨LB, 1, none⟩ = some (.string (S o.fd)) ∧ u.cell? ⟨LB, 2, none⟩ = some (.string (S o.tl)) ∧ u.cell? ⟨LB, 3, none⟩ = some (.string (S o.td)) ∧ u.cell? ⟨LB, 4, none⟩ = some (.string (S o.tx))) from fun u hu => ⟨wcell_next l0 hu, wcell_next l1 hu, wcell_next l2 hu, wcell_next l3 hu, wcell_next l4 hu⟩)
        have HJ2 := hid (show ∀ (u : World) (q cap : Nat) (v : World), OwnCs 0 3 v (.slice (some ⟨q, 0, none⟩) (j + 1 + 2) cap) (L ++ [keepC, seenC]) → Below w7.heap.size w7 u → Below v.heap.size v u → j + 1 + 2 ≤ cap → Calls Tryz.prog 7 #[.slice (some ⟨q, 0, none⟩) (j + 1 + 2) cap, .agg #[.string (S o.fl), .string (S o.fd), .string (S o.tl), .string (S o.td), .string (S o.tx)]] u (fun e w' => CrsR u ⟨[⟨3, [], (V : Nat)⟩], 1, true, 0⟩ e w' ∧ Below w7.heap.size w7 w') from fun u q cap v hO hu hv hc => by
          have hC := OwnRow.nextC hO hv
          have hwu := HB7.out.trans (hu.mono HB7.out.size)
          have h := judge_flg o HO.out 2 (ks.map flgC ++ [keepC, seenC]) (by
            intro x hx
            rcases List.mem_append.1 hx with h | h
            · obtain ⟨k, hk, rfl⟩ := List.mem_map.1 h
              exact flgC_is (HK10.out k hk)
            · rcases List.mem_cons.1 h with e | e
              · rw [e]; exact keepC_is
              · rw [List.mem_singleton.1 e]; exact seenC_is) (by have := HKL.out; simp; omega) (some ⟨q, 0, none⟩) cap u (HM.out.1.next hwu) (maxLenCell_below HM.out.2 hwu) (by have := HKL.out; simp; omega)
          have e1 : (ks.map flgC ++ [keepC, seenC]).length + 1 = j + 1 + 2 := by have := HKL.out; simp; omega
          have e2 : reqC :: (ks.map flgC ++ [keepC, seenC]) = L ++ [keepC, seenC] := by rw [← HLE.out]; rfl
          rw [e1, e2] at h
          have h3 := h (own_cmds hC (by have := HLL.out; simp; omega))
          rw [show judgeP o 3 (L ++ [keepC, seenC]) = ⟨[⟨3, [], (V : Nat)⟩], 1, true, 0⟩ by rw [← HLE.out, ← HVE.out]; exact judge_two o 2 ks HK10.out] at h3
          exact h3.mono fun e w' hh => ⟨hh, by obtain ⟨_, _, _, _, _, hb⟩ := hh; exact hu.trans (hb.mono hu.size)⟩)
        have HN1 := hid (show j + 1 = L.length from HLL.out.symm)
        have hpos : 0 < L.length := by have := HLL.out; omega
        have h63 : j + 1 ≤ 1000 := by omega
        have h90 : j + 1 ≤ 900 := by omega
        clear hA7 hb7 he7 hD7 hl7 HEN HD6
        go_wp2_with fail
        go_cut [17, 18] (fun p e wx => FBox w7 ⟨[⟨3, [], (V : Nat)⟩], 1, true, 0⟩ p e wx)
        case first =>
          go_region_held3 (fun w' => w'.cell? ⟨LB, 0, none⟩ = some (.string (S o.fl)) ∧ w'.cell? ⟨LB, 1, none⟩ = some (.string (S o.fd)) ∧ w'.cell? ⟨LB, 2, none⟩ = some (.string (S o.tl)) ∧ w'.cell? ⟨LB, 3, none⟩ = some (.string (S o.td)) ∧ w'.cell? ⟨LB, 4, none⟩ = some (.string (S o.tx))) (first | (refine HKS.out _ ?_; repeat (first | exact HB10.out | exact HB9.out | exact HB8.out | exact Below.refl _ _ | refine Below.drew ?_ | refine Below.alloc ?_ (by first | exact Nat.le_refl _ | exact HB10.out.size | exact HB9.out.size | exact HB8.out.size | (have := HB9.out.size; simp <;> omega) | (have := HB8.out.size; simp <;> omega) | (simp <;> omega)) _ | refine Below.setCell ?_ (by first | exact HPP.out | simp) _)) | fail)
            (first
              | (refine step_nil (by rfl) _ _ (by rfl) (j + 1) L g cap (by rfl) (by rfl) HN1.out w7 ?_ HCL.out hpos h63 ?_
                 · repeat (first | exact HB10.out | exact HB9.out | exact HB8.out | exact Below.refl _ _ | refine Below.drew ?_ | refine Below.alloc ?_ (by first | exact Nat.le_refl _ | exact HB10.out.size | exact HB9.out.size | exact HB8.out.size | (have := HB9.out.size; simp <;> omega) | (have := HB8.out.size; simp <;> omega) | (simp <;> omega)) _ | refine Below.setCell ?_ (by first | exact HPP.out | simp) _)
                 intro g1 cap1 w8 hown8 hb8 hB8 hg1 hG1 hL1
                 have HO8 := hid hown8
                 have HB8 := hid hB8
                 have HG1 := hid hG1
                 have HL1 := hid hL1
                 first
                   | (have HX : Hid (w8.heap[w7.heap.size]? = some (.cells #[.int .i64 3, .slice none 0 0, .int .i64 0, .int .i64 0, .int .i64 0, .slice none 0 0, .slice none 0 0, .bool false, .int .i64 0, .slice none 0 0, .slice none 0 0, .slice none 0 0, .int .i64 8, .slice (some ⟨LB + 1, 0, none⟩) 1 5, .int .i64 0, .int .i64 0, .int .i64 0, .slice none 0 0, .slice none 0 0, .bool false, .int .i64 0, .slice none 0 0, .slice none 0 0, .slice none 0 0] 40) ∧ w7.heap.size ≠ g1) := hid (keepN hb8 hg1 (tl_drew (tl_at (w := w7) _ rfl))); have HC8 := hid HX.out)
                   | (have HX : Hid (w8.heap[w7.heap.size]? = some (.cells #[.int .i64 3, .slice none 0 0, .int .i64 0, .int .i64 0, .int .i64 0, .slice none 0 0, .slice none 0 0, .bool false, .int .i64 0, .slice none 0 0, .slice none 0 0, .slice none 0 0, .int .i64 8, .slice (some ⟨LB + 1, 0, none⟩) 1 5, .int .i64 0, .int .i64 0, .int .i64 0, .slice none 0 0, .slice none 0 0, .bool false, .int .i64 0, .slice none 0 0, .slice none 0 0, .slice none 0 0] 40) ∧ w7.heap.size ≠ g1) := hid (keepN hb8 hg1 (tl_at (w := w7) _ rfl)); have HC8 := hid HX.out)
                   | (have HX : Hid (w8.heap[w7.heap.size]? = some (.cells #[.int .i64 3, .slice none 0 0, .int .i64 0, .int .i64 0, .int .i64 0, .slice none 0 0, .slice none 0 0, .bool false, .int .i64 0, .slice none 0 0, .slice none 0 0, .slice none 0 0, .int .i64 8, .slice (some ⟨LB + 1, 0, none⟩) 1 5, .int .i64 0, .int .i64 0, .int .i64 0, .slice none 0 0, .slice none 0 0, .bool false, .int .i64 0, .slice none 0 0, .slice none 0 0, .slice none 0 0] 40) ∧ w7.heap.size ≠ g1) := hid (keepN hb8 hg1 (tl_drew (tl_old _ (tl_at (w := w7) _ rfl)))); have HC8 := hid HX.out)
                   | (have HX : Hid (w8.heap[w7.heap.size]? = some (.cells #[.int .i64 3, .slice none 0 0, .int .i64 0, .int .i64 0, .int .i64 0, .slice none 0 0, .slice none 0 0, .bool false, .int .i64 0, .slice none 0 0, .slice none 0 0, .slice none 0 0, .int .i64 8, .slice (some ⟨LB + 1, 0, none⟩) 1 5, .int .i64 0, .int .i64 0, .int .i64 0, .slice none 0 0, .slice none 0 0, .bool false, .int .i64 0, .slice none 0 0, .slice none 0 0, .slice none 0 0] 40) ∧ w7.heap.size ≠ g1) := hid (keepN hb8 hg1 (tl_old _ (tl_at (w := w7) _ rfl))); have HC8 := hid HX.out)
                   | (have HX : Hid (w8.heap[w7.heap.size + 1]? = some (.cells #[.int .i64 3, .slice none 0 0, .int .i64 0, .int .i64 0, .int .i64 0, .slice none 0 0, .slice none 0 0, .bool false, .int .i64 0, .slice none 0 0, .slice none 0 0, .slice none 0 0, .int .i64 8, .slice (some ⟨LB + 1, 0, none⟩) 1 5, .int .i64 0, .int .i64 0, .int .i64 0, .slice none 0 0, .slice none 0 0, .bool false, .int .i64 0, .slice none 0 0, .slice none 0 0, .slice none 0 0] 40) ∧ w7.heap.size + 1 ≠ g1) := hid (keepN hb8 hg1 (tl_drew (ftl_at1 (w := w7) _ _))); have HC8 := hid HX.out)
                   | (have HX : Hid (w8.heap[w7.heap.size + 1]? = some (.cells #[.int .i64 3, .slice none 0 0, .int .i64 0, .int .i64 0, .int .i64 0, .slice none 0 0, .slice none 0 0, .bool false, .int .i64 0, .slice none 0 0, .slice none 0 0, .slice none 0 0, .int .i64 8, .slice (some ⟨LB + 1, 0, none⟩) 1 5, .int .i64 0, .int .i64 0, .int .i64 0, .slice none 0 0, .slice none 0 0, .bool false, .int .i64 0, .slice none 0 0, .slice none 0 0, .slice none 0 0] 40) ∧ w7.heap.size + 1 ≠ g1) := hid (keepN hb8 hg1 (ftl_at1 (w := w7) _ _)); have HC8 := hid HX.out)
                   | skip
                 first
                   | (have HX : Hid (w8.heap[w7.heap.size]? = some (.cells #[.slice none 0 0, .int .i64 0, .bool false, .int .i64 0] 46) ∧ w7.heap.size ≠ g1) := hid (keepN hb8 hg1 (tl_drew (tl_at (w := w7) _ rfl))); have HK8 := hid HX.out; have HPP : Hid (w7.heap.size ≤ w7.heap.size) := hid (Nat.le_refl _))
                   | (have HX : Hid (w8.heap[w7.heap.size]? = some (.cells #[.slice none 0 0, .int .i64 0, .bool false, .int .i64 0] 46) ∧ w7.heap.size ≠ g1) := hid (keepN hb8 hg1 (tl_at (w := w7) _ rfl)); have HK8 := hid HX.out; have HPP : Hid (w7.heap.size ≤ w7.heap.size) := hid (Nat.le_refl _))
                   | (have HX : Hid (w8.heap[w7.heap.size]? = some (.cells #[.slice none 0 0, .int .i64 0, .bool false, .int .i64 0] 46) ∧ w7.heap.size ≠ g1) := hid (keepN hb8 hg1 (tl_drew (tl_old _ (tl_at (w := w7) _ rfl)))); have HK8 := hid HX.out; have HPP : Hid (w7.heap.size ≤ w7.heap.size) := hid (Nat.le_refl _))
                   | (have HX : Hid (w8.heap[w7.heap.size]? = some (.cells #[.slice none 0 0, .int .i64 0, .bool false, .int .i64 0] 46) ∧ w7.heap.size ≠ g1) := hid (keepN hb8 hg1 (tl_old _ (tl_at (w := w7) _ rfl))); have HK8 := hid HX.out; have HPP : Hid (w7.heap.size ≤ w7.heap.size) := hid (Nat.le_refl _))
                   | (have HX : Hid (w8.heap[w7.heap.size + 1]? = some (.cells #[.slice none 0 0, .int .i64 0, .bool false, .int .i64 0] 46) ∧ w7.heap.size + 1 ≠ g1) := hid (keepN hb8 hg1 (tl_drew (ftl_at1 (w := w7) _ _))); have HK8 := hid HX.out; have HPP : Hid (w7.heap.size ≤ w7.heap.size + 1) := hid (Nat.le_succ _))
                   | (have HX : Hid (w8.heap[w7.heap.size + 1]? = some (.cells #[.slice none 0 0, .int .i64 0, .bool false, .int .i64 0] 46) ∧ w7.heap.size + 1 ≠ g1) := hid (keepN hb8 hg1 (ftl_at1 (w := w7) _ _)); have HK8 := hid HX.out; have HPP : Hid (w7.heap.size ≤ w7.heap.size + 1) := hid (Nat.le_succ _))
                   | skip
                 clear hown8 hb8 hB8 hg1 hG1 hL1)
              | (refine step_two (by rfl) _ _ (by rfl) (j + 1) L g1 cap1 _ (LB + 1) 9 (by rfl) (by rfl) HN1.out h90 w7 w8 HO8.out ?_ HG1.out HN7.out ?_ ?_ ?_
                 · repeat (first | exact HB10.out | exact HB9.out | exact HB8.out | exact Below.refl _ _ | refine Below.drew ?_ | refine Below.alloc ?_ (by first | exact Nat.le_refl _ | exact HB10.out.size | exact HB9.out.size | exact HB8.out.size | (have := HB9.out.size; simp <;> omega) | (have := HB8.out.size; simp <;> omega) | (simp <;> omega)) _ | refine Below.setCell ?_ (by first | exact HPP.out | simp) _)
                 · repeat (first | exact Below.refl _ _ | refine Below.alloc ?_ (by first | exact Nat.le_refl _ | (simp <;> omega)) _)
                 · first
                     | exact HC8.out
                     | exact ⟨tl_old _ HC8.out.1, HC8.out.2⟩
                     | exact ⟨tl_at (w := w8) _ rfl, ne_gt HL1.out (Nat.le_refl _)⟩
                     | exact ⟨tl_old _ (tl_at (w := w8) _ rfl), ne_gt HL1.out (Nat.le_refl _)⟩
                     | exact ⟨ftl_at1 (w := w8) _ _, ne_gt HL1.out (Nat.le_succ _)⟩
                 intro g2 cap2 w9 hown9 hcap9 hB9 hgrow9
                 have HO9 := hid hown9
                 have HC9 := hid hcap9
                 have HB9 := hid hB9
                 first
                   | (have HK9 := hid (keepG hgrow9 (HK8.out.1) HK8.out.2))
                   | (have HK9 := hid (keepG hgrow9 (tl_old _ HK8.out.1) HK8.out.2))
                   | (have HK9 := hid (keepG hgrow9 (tl_old _ (tl_old _ HK8.out.1)) HK8.out.2))
                   | (have HK9 : Hid (w9.heap[w8.heap.size]? = some (.cells #[.slice none 0 0, .int .i64 0, .bool false, .int .i64 0] 46)) := hid (keepG hgrow9 (tl_at (w := w8) _ rfl) (ne_gt HL1.out (Nat.le_refl _))); have HPP : Hid (w7.heap.size ≤ w8.heap.size) := hid (HB8.out.size))
                   | (have HK9 : Hid (w9.heap[w8.heap.size]? = some (.cells #[.slice none 0 0, .int .i64 0, .bool false, .int .i64 0] 46)) := hid (keepG hgrow9 (tl_old _ (tl_at (w := w8) _ rfl)) (ne_gt HL1.out (Nat.le_refl _))); have HPP : Hid (w7.heap.size ≤ w8.heap.size) := hid (HB8.out.size))
                   | (have HK9 : Hid (w9.heap[w8.heap.size + 1]? = some (.cells #[.slice none 0 0, .int .i64 0, .bool false, .int .i64 0] 46)) := hid (keepG hgrow9 (ftl_at1 (w := w8) _ _) (ne_gt HL1.out (Nat.le_succ _))); have HPP : Hid (w7.heap.size ≤ w8.heap.size + 1) := hid (Nat.le_succ_of_le HB8.out.size))
                   | skip
                 clear hown9 hcap9 hB9 hgrow9)
              | (go_at_call 7
                 refine (HJ2.out _ _ _ w9 HO9.out ?_ ?_ HC9.out).mono ?_
                 · repeat (first | exact HB10.out | exact HB9.out | exact HB8.out | exact Below.refl _ _ | refine Below.drew ?_ | refine Below.alloc ?_ (by first | exact Nat.le_refl _ | exact HB10.out.size | exact HB9.out.size | exact HB8.out.size | (have := HB9.out.size; simp <;> omega) | (have := HB8.out.size; simp <;> omega) | (simp <;> omega)) _ | refine Below.setCell ?_ (by first | exact HPP.out | simp) _)
                 · repeat (first | exact Below.refl _ _ | refine Below.alloc ?_ (by first | exact Nat.le_refl _ | (simp <;> omega)) _)
                 rintro e w10 ⟨⟨a9, k9, he9, hA9, hn9, hb9⟩, hB10⟩
                 have he9' : e = .returned (.tuple #[.agg #[.slice a9 1 k9, .int .i64 1, .bool true, .int .i64 0], .int .i64 0]) := he9
                 subst he9'
                 have HA9 := hid hA9
                 have HB10 := hid hB10
                 first
                   | (have HK10' : Hid (w10.heap[w7.heap.size]? = some (.cells #[.slice none 0 0, .int .i64 0, .bool false, .int .i64 0] 46)) := hid (tl_low hb9 (HK9.out)); have hk := HK10'.out; have y0 := box_free hk 0; have y1 := box_free hk 1; have y2 := box_free hk 2; have y3 := box_free hk 3; have z0 : w10.cell? ⟨w7.heap.size, 0, none⟩ = some (.slice none 0 0) := tl_cell (j := 0) hk rfl; have z1 : w10.cell? ⟨w7.heap.size, 1, none⟩ = some (.int .i64 0) := tl_cell (j := 1) hk rfl; have z2 : w10.cell? ⟨w7.heap.size, 2, none⟩ = some (.bool false) := tl_cell (j := 2) hk rfl; have z3 : w10.cell? ⟨w7.heap.size, 3, none⟩ = some (.int .i64 0) := tl_cell (j := 3) hk rfl; clear hk)
                   | (have HK10' : Hid (w10.heap[w7.heap.size + 1]? = some (.cells #[.slice none 0 0, .int .i64 0, .bool false, .int .i64 0] 46)) := hid (tl_low hb9 (HK9.out)); have hk := HK10'.out; have y0 := box_free hk 0; have y1 := box_free hk 1; have y2 := box_free hk 2; have y3 := box_free hk 3; have z0 : w10.cell? ⟨w7.heap.size + 1, 0, none⟩ = some (.slice none 0 0) := tl_cell (j := 0) hk rfl; have z1 : w10.cell? ⟨w7.heap.size + 1, 1, none⟩ = some (.int .i64 0) := tl_cell (j := 1) hk rfl; have z2 : w10.cell? ⟨w7.heap.size + 1, 2, none⟩ = some (.bool false) := tl_cell (j := 2) hk rfl; have z3 : w10.cell? ⟨w7.heap.size + 1, 3, none⟩ = some (.int .i64 0) := tl_cell (j := 3) hk rfl; clear hk)
                   | (have HK10' : Hid (w10.heap[w8.heap.size]? = some (.cells #[.slice none 0 0, .int .i64 0, .bool false, .int .i64 0] 46)) := hid (tl_low hb9 (HK9.out)); have hk := HK10'.out; have y0 := box_free hk 0; have y1 := box_free hk 1; have y2 := box_free hk 2; have y3 := box_free hk 3; have z0 : w10.cell? ⟨w8.heap.size, 0, none⟩ = some (.slice none 0 0) := tl_cell (j := 0) hk rfl; have z1 : w10.cell? ⟨w8.heap.size, 1, none⟩ = some (.int .i64 0) := tl_cell (j := 1) hk rfl; have z2 : w10.cell? ⟨w8.heap.size, 2, none⟩ = some (.bool false) := tl_cell (j := 2) hk rfl; have z3 : w10.cell? ⟨w8.heap.size, 3, none⟩ = some (.int .i64 0) := tl_cell (j := 3) hk rfl; clear hk)
                   | (have HK10' : Hid (w10.heap[w8.heap.size + 1]? = some (.cells #[.slice none 0 0, .int .i64 0, .bool false, .int .i64 0] 46)) := hid (tl_low hb9 (HK9.out)); have hk := HK10'.out; have y0 := box_free hk 0; have y1 := box_free hk 1; have y2 := box_free hk 2; have y3 := box_free hk 3; have z0 : w10.cell? ⟨w8.heap.size + 1, 0, none⟩ = some (.slice none 0 0) := tl_cell (j := 0) hk rfl; have z1 : w10.cell? ⟨w8.heap.size + 1, 1, none⟩ = some (.int .i64 0) := tl_cell (j := 1) hk rfl; have z2 : w10.cell? ⟨w8.heap.size + 1, 2, none⟩ = some (.bool false) := tl_cell (j := 2) hk rfl; have z3 : w10.cell? ⟨w8.heap.size + 1, 3, none⟩ = some (.int .i64 0) := tl_cell (j := 3) hk rfl; clear hk)
                   | (have HK10' : Hid (w10.heap[w9.heap.size]? = some (.cells #[.slice none 0 0, .int .i64 0, .bool false, .int .i64 0] 46)) := hid (tl_low hb9 (tl_at (w := w9) _ rfl)); have HPP : Hid (w7.heap.size ≤ w9.heap.size) := hid HB9.out.size; have hk := HK10'.out; have y0 := box_free hk 0; have y1 := box_free hk 1; have y2 := box_free hk 2; have y3 := box_free hk 3; have z0 : w10.cell? ⟨w9.heap.size, 0, none⟩ = some (.slice none 0 0) := tl_cell (j := 0) hk rfl; have z1 : w10.cell? ⟨w9.heap.size, 1, none⟩ = some (.int .i64 0) := tl_cell (j := 1) hk rfl; have z2 : w10.cell? ⟨w9.heap.size, 2, none⟩ = some (.bool false) := tl_cell (j := 2) hk rfl; have z3 : w10.cell? ⟨w9.heap.size, 3, none⟩ = some (.int .i64 0) := tl_cell (j := 3) hk rfl; clear hk)
                   | skip
                 clear hA9 hn9 hb9 he9 hB10)
              | fail)
          all_goals
            first
              | (have HE := hid (FBox.old (W := w7) (cc := ⟨[⟨3, [], (V : Nat)⟩], 1, true, 0⟩) HPP.out HK10'.out HA9.out HB10.out)
                 go_wp2_with fail
                 go_meet
                 exact HE.out)
              | (have HE := hid (FBox.new (W := w7) (cc := ⟨[⟨3, [], (V : Nat)⟩], 1, true, 0⟩) HA9.out HB10.out)
                 go_wp2_with fail
                 go_meet
                 exact HE.out)
        case rest =>
          obtain ⟨P, a9, k9, rfl, rfl, hP', hA', hbc⟩ := hcut
          have hP : wc.heap[P]? = some (.cells #[.slice a9 1 k9, .int .i64 1, .bool true, .int .i64 0] 46) := hP'
          have hA9 : AtnsM anyB wc (.slice a9 1 k9) [⟨3, [], (V : Nat)⟩] := hA'
          have hAc := AtnsM.next HAT.out hbc
          obtain ⟨W11, hW11⟩ : ∃ W11, W11 = wc.alloc (.cells #[.int .i64 3, .string ⟨#[]⟩, .int .i64 (V : Nat)] 53) := ⟨_, rfl⟩
          have HWE11 := hid hW11
          have hB11 : Below wc.heap.size wc W11 := by rw [hW11]; exact (Below.refl _ _).alloc (Nat.le_refl _) _
          have HSA := hid (show Calls Tryz.prog 9 #[.slice a7 1 k7, .slice (some ⟨wc.heap.size, 0, none⟩) 1 1] W11 (fun e w' => e = .returned (.bool true) ∧ Below W11.heap.size W11 w') from sameActs_any a7 (some ⟨wc.heap.size, 0, none⟩) k7 1 [⟨3, [], (V : Nat)⟩] W11 (AtnsM.next hAc hB11) (rowM_one (cs := [.int .i64 3, .string ⟨#[]⟩, .int .i64 (V : Nat)]) (by rw [hW11]; exact tl_at _ rfl) rfl trivial rfl) (by simp))
          have HBC := hid (show Below w.heap.size w W11 from (HB7.out.trans (hbc.mono HB7.out.size)).trans (hB11.mono (Nat.le_trans HB7.out.size hbc.size)))
          have HP11 := hid (tl_low hB11 hP)
          have HA11 := hid (AtnsM.next hAc hB11)
          have HA12 := hid (AtnsM.next hA9 hB11)
          clear hP hA9 hAc hbc hW11 hB11 hP' hA' l0 l1 l2 l3 l4
          go_wp2_with fail
          rw [← HWE11.out]
          refine HSA.out.mono ?_
          rintro e w12 ⟨rfl, hb12⟩
          simp only
          have hP12 := tl_low hb12 HP11.out
          have p0 : w12.cell? ⟨P, 0, none⟩ = some (.slice a9 1 k9) := tl_cell (j := 0) hP12 rfl
          have HSB := hid (show Calls Tryz.prog 9 #[.slice a9 1 k9, .slice a7 1 k7] w12 (fun e w' => e = .returned (.bool true) ∧ Below w12.heap.size w12 w') from sameActs_any a9 a7 k9 k7 [⟨3, [], (V : Nat)⟩] w12 (AtnsM.next HA12.out hb12) (AtnsM.next HA11.out hb12) (by simp))
          have HB12 := hid (show Below w.heap.size w w12 from HBC.out.trans (hb12.mono HBC.out.size))
          have HP12 := hid hP12
          clear hb12 hP12
          go_wp2_with fail
          refine HSB.out.mono ?_
          rintro e w13 ⟨rfl, hb13⟩
          simp only
          have hP13 := tl_low hb13 HP12.out
          have p1 : w13.cell? ⟨P, 1, none⟩ = some (.int .i64 1) := tl_cell (j := 1) hP13 rfl
          have HB13 := hid (show Below w.heap.size w w13 from HB12.out.trans (hb13.mono HB12.out.size))
          clear hb13 hP13
          go_wp2
          go_ret
          exact ⟨by first | rfl | simp, HB13.out⟩
end Go.Proofs.YtcphpnnhopflgaaGreatDoor
