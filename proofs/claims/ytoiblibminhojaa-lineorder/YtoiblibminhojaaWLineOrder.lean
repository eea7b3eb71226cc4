/-
  Who has not said who sends can't say to whom, and so on: walked.
-/
import Derived.Test.YtoiblibminhojaaLmRdy
import Derived.Test.YtoiblibminhojaaLmLw3
import Derived.Test.YtoiblibminhojaaLmTxt
import Derived.Test.YtoiblibminhojaaKeepPick
namespace Go.Proofs.Ytoiblibminhojaa
open Go.RowKit Go.Proofs

theorem wpAnyH_mono {P : Program} {md : Region.Mode} {ops : Array Oper} {Q : Exit → Act → World → Prop} {S S' : World → Prop} (h : ∀ w, S' w → S w) : ∀ (fuel : Nat) (listed : Array Bool) (a : Act) (w : World), wpAnyH P md ops Q S' fuel listed a w → wpAnyH P md ops Q S fuel listed a w := by
  intro fuel
  induction fuel with
  | zero => intro listed a w hw; exact hw
  | succ fuel ih =>
    intro listed a w hw
    exact ⟨hw.1, fun i hi => wpOp_mono (fun a' w' hh => ⟨h _ hh.1, ih _ _ _ hh.2⟩) (hw.2 i hi)⟩
theorem wpAnyH_switch {P : Program} {md : Region.Mode} {ops : Array Oper} {Q : Exit → Act → World → Prop} {S E : World → Prop} {fuel : Nat} {listed : Array Bool} {a : Act} {w : World} (hS : S w) (hE : E w) (k : S w ∧ E w → wpAnyH P md ops Q (fun w => S w ∧ E w) fuel listed a w) : wpAnyH P md ops Q S fuel listed a w :=
  wpAnyH_mono (fun _ h => h.1) _ _ _ _ (k ⟨hS, hE⟩)
theorem lm_far {w : World} {b o P j : Nat} {v u : Value} (h : w.cell? ⟨b, o, none⟩ = some v) (hne : b ≠ P) : (w.setCell ⟨P, j, none⟩ u).cell? ⟨b, o, none⟩ = some v :=
  (World.cell?_of_block (w := w) (Below.heap_setCell _ _ _ _ hne)).trans h
theorem nx_cell {u : World} {f : Adr} {i R : Nat} {nx : List UInt8} (h : u.heap[R]? = some (.cells #[.string ⟨#[108, 104, 108, 111, 32, 97]⟩, .string (S (orL f 0)), .string (S (orL f 1)), .string ⟨#[78, 79, 79, 80]⟩] 9)) (hi : i < 4) (hn : nx = nxL f i) : u.cell? ⟨R, i, none⟩ = some (.string (S nx)) := by
  subst hn
  obtain rfl | rfl | rfl | rfl : i = 0 ∨ i = 1 ∨ i = 2 ∨ i = 3 := by omega
  all_goals (simp [World.cell?, h]; first | rfl | done)
theorem en_cell {u : World} {i R : Nat} {nx : List UInt8} (h : u.heap[R]? = some (.cells #[.string ⟨#[82, 83, 69, 84]⟩, .string ⟨#[81, 85, 73, 84]⟩] 9)) (hi : i < 2) (hn : nx = enL i) : u.cell? ⟨R, i, none⟩ = some (.string (S nx)) := by
  subst hn
  obtain rfl | rfl : i = 0 ∨ i = 1 := by omega
  all_goals (simp [World.cell?, h]; first | rfl | done)
set_option maxHeartbeats 16000000 in
set_option linter.unusedSimpArgs false in
set_option maxRecDepth 100000 in
theorem lineOrder_walk (fl fd fg tl td tg : ByteArray) (x y : Value) (s1 : fl.size ≤ maxLen) (s2 : fd.size ≤ maxLen) (_ : tl.size ≤ maxLen) (_ : td.size ≤ maxLen) (n : Int) (hn : (Lit.int .i64 n).wf = true) (w : World) :
    Calls Try.prog 5 #[.agg #[.string fl, .string fd, .string fg, .string tl, .string td, .string tg, x, y], .int .i64 n] w fun e w' => e = .returned (.bool true) ∧ Below w.heap.size w w' := by
  obtain ⟨f, hf⟩ : ∃ f, f = adrOf fl.data.toList fd.data.toList := ⟨_, rfl⟩
  have HF := hid (show lawful f by rw [hf]; exact adrOf_lawful _ _)
  have e1 : (S f.1).size ≤ 8 := by rw [size_S]; exact HF.out.len.1
  have e2 : (S f.2).size ≤ 12 := by rw [size_S]; exact HF.out.len.2
  have e3 : (S (angA f)).size ≤ 23 := by rw [size_S]; exact angA_len HF.out
  obtain ⟨W0, hW0⟩ : ∃ W0, W0 = w.alloc (.cells #[.string fl, .string fd, .string fg, .string tl, .string td, .string tg, x, y] 43) := ⟨_, rfl⟩
  have HWE := hid hW0
  have HB0 := hid (show Below w.heap.size w W0 by rw [hW0]; exact (Below.refl _ _).alloc (Nat.le_refl _) _)
  have hP0 : W0.heap[w.heap.size]? = some (.cells #[.string fl, .string fd, .string fg, .string tl, .string td, .string tg, x, y] 43) := by rw [hW0]; exact heap_alloc_new w _
  have HA1 := hid (address_any fl fd fg W0 s1 s2)
  rw [← hf] at HA1
  obtain ⟨p0, p1, p2, _, _, _⟩ := post_box hP0
  obtain ⟨o, ho⟩ : ∃ o, o = pickN n 2 := ⟨_, rfl⟩
  have ho2 : o < 2 := by rw [ho]; exact pickN_lt n 2 (by omega)
  have HPO := hid (show ∀ u, Calls Try.prog 17 #[.int .i64 n, .int .i64 2] u fun e w' => e = .returned (.int .i64 (o : Int)) ∧ w' = u from fun u => by rw [ho]; exact picked_any n 2 u hn (by omega) (by omega))
  have HAT := hid (ang_text f)
  have HMT := hid (mailU_text (angA f))
  have HRT := hid (rcptU_text (angA f))
  clear hW0 hP0 s1 s2 hf hn ho
  go_enter Try.func5, Try.ntmps5
  go_upto_region 1 with fail
  rw [← HWE.out]
  go_wp2_with fail
  refine HA1.out.mono ?_
  rintro e w1 ⟨rfl, hb1⟩
  obtain ⟨b5, hb5⟩ : ∃ b, b = w1.heap.size := ⟨_, rfl⟩
  have HE5 := hid hb5
  obtain ⟨W1, hW1⟩ : ∃ W1, W1 = w1.alloc (.cells #[.string (S f.1), .string (S f.2)] 23) := ⟨_, rfl⟩
  have HWE1 := hid hW1
  have hB1 : Below w1.heap.size w1 W1 := by rw [hW1]; exact (Below.refl _ _).alloc (Nat.le_refl _) _
  have HB1 := hid (show Below w.heap.size w W1 from (HB0.out.trans (hb1.mono HB0.out.size)).trans (hB1.mono (Nat.le_trans HB0.out.size hb1.size)))
  have hF1 : W1.heap[b5]? = some (.cells #[.string (S f.1), .string (S f.2)] 23) := by rw [hW1, hb5]; exact heap_alloc_new _ _
  obtain ⟨f0, f1⟩ := adr_box hF1
  clear hb5 hW1 hB1 hb1 hF1
  go_upto_region 2 with fail
  rw [← HWE1.out, ← HE5.out]
  clear p0 p1 p2
  have f0' : ∀ o, (W1.alloc o).cell? ⟨b5, 0, none⟩ = some (.string (S f.1)) := fun o => wcell_next f0 ((Below.refl _ _).alloc (Nat.le_refl _) _)
  have f1' : ∀ o, (W1.alloc o).cell? ⟨b5, 1, none⟩ = some (.string (S f.2)) := fun o => wcell_next f1 ((Below.refl _ _).alloc (Nat.le_refl _) _)
  go_upto_region 4 with fail
  rw [HAT.out]
  go_upto_region 5 with fail
  rw [HMT.out, HRT.out]
  obtain ⟨b6, hb6⟩ : ∃ b, b = W1.heap.size := ⟨_, rfl⟩
  have HE6 := hid hb6
  obtain ⟨b8, hb8⟩ : ∃ b, b = b6 + 1 := ⟨_, rfl⟩
  have HE8 := hid hb8
  obtain ⟨b9, hb9⟩ : ∃ b, b = b8 + 1 := ⟨_, rfl⟩
  have HE9 := hid hb9
  obtain ⟨W3, hW3⟩ : ∃ W3, W3 = ((W1.alloc (.cells #[.string (S f.1)] 9)).alloc (.cells #[.string (S (mailU ++ angA f)), .string (S (rcptU ++ angA f)), .string ⟨#[68, 65, 84, 65]⟩] 9)).alloc (.cells #[.int .i64 0, .string ⟨#[]⟩, .string ⟨#[]⟩, .slice none 0 0, .string ⟨#[]⟩, .bool false] 26) := ⟨_, rfl⟩
  have HWE3 := hid hW3
  have hB3 : Below W1.heap.size W1 W3 := by rw [hW3]; exact (((Below.refl _ _).alloc (Nat.le_refl _) _).alloc (by simp) _).alloc (by simp; omega) _
  have hK3 : W3.heap[b6]? = some (.cells #[.string (S f.1)] 9) := by rw [hW3, hb6]; exact lm_up2 _ _ _
  have hL3 : W3.heap[b8]? = some (.cells #[.string (S (mailU ++ angA f)), .string (S (rcptU ++ angA f)), .string ⟨#[68, 65, 84, 65]⟩] 9) := by rw [hW3, hb8, hb6]; exact lm_up1 _ _ _
  have HL3 := hid (fun (k : Nat) (hk : k < 3) => show W3.cell? ⟨b8, k, none⟩ = some (.string (S (orL f k))) by
    obtain rfl | rfl | rfl : k = 0 ∨ k = 1 ∨ k = 2 := by omega
    all_goals (simp [World.cell?, hL3]; first | rfl | done))
  have HS3 := hid (show SesB W3 b9 0 (rdS f f 0) from ⟨none, 0, by rw [hW3, hb9, hb8, hb6]; exact lm_at2 _ _ _, World.ownsRow_nil _ _ _ _⟩)
  have HK3 := hid hK3
  have HB3 := hid (HB1.out.trans (hB3.mono HB1.out.size))
  have HN := hid (show b6 < b8 ∧ b8 < b9 ∧ w.heap.size ≤ b9 by
    rw [hb9, hb8, hb6]
    exact ⟨Nat.lt_succ_self _, Nat.lt_succ_self _, Nat.le_trans HB1.out.size (by omega)⟩)
  clear hb6 hb8 hb9 hW3 hB3 hK3 hL3 f0 f1 f0' f1' e1 e2
  go_upto_region 6 with fail
  rw [← HWE3.out, ← HE6.out, ← HE8.out, ← HE9.out]
  go_wp2
  go_loopw [10] (fun v wr => ∃ i : Nat, i ≤ 4 ∧ v = .int .i64 i ∧ Hid (SesB wr b9 0 (rdS f f (min i 3))) ∧ Hid (Below b9 W3 wr)) (fun v _ => 4 - (intOf v).toNat)
  case atStart => exact ⟨0, Nat.zero_le _, rfl, HS3, Below.refl _ _⟩
  case round =>
    obtain ⟨i, hi, rfl, HS, HB⟩ := hrel
    have hn := HN.out
    obtain ⟨wo, hwo⟩ : ∃ wo, wo = wr := ⟨_, rfl⟩
    rw [← hwo] at HS HB ⊢
    clear hwo wr
    by_cases h4 : i < 4
    · have k1 : (i : Int) < 4 := by omega
      have HMI := hid (show min i 3 = i by omega)
      rw [HMI.out] at HS
      obtain ⟨sa, sk, hS, hO⟩ := HS.out
      have HHL := hid (show b9 < wo.heap.size from (Array.getElem?_eq_some_iff.1 hS).1)
      have HM := hid (rd_may HF.out HF.out i (by omega))
      obtain ⟨s, hs⟩ : ∃ s, s = rdS f f i := ⟨_, rfl⟩
      have HSE := hid hs
      rw [← hs] at hS hO HM
      have HSX := hid hS
      have HOO := hid hO
      have HKW := hid (show wo.heap[b6]? = some (.cells #[.string (S f.1)] 9) from lm_low HB.out HK3.out (by omega))
      have HLW := hid (fun (k : Nat) (hk : k < 3) => show wo.cell? ⟨b8, k, none⟩ = some (.string (S (orL f k))) from (HB.out.cell (p := ⟨b8, k, none⟩) hn.2.1).trans (HL3.out k hk))
      clear hS hO hs hn
      go_wp2
      go_loopw [11] (fun v wr => ∃ k : Nat, k ≤ 3 ∧ v = .int .i64 k ∧ Hid (Below wo.heap.size wo wr)) (fun v _ => 3 - (intOf v).toNat)
      case atStart => exact ⟨0, Nat.zero_le _, rfl, Below.refl _ _⟩
      case round =>
        obtain ⟨k, hk, rfl, HBK⟩ := hrel
        obtain ⟨z0, z1, z2, z3, z4, z5⟩ := ses_box (lm_next HBK.out HSX.out)
        have HOK := hid (own_next HOO.out HBK.out)
        have HKR := hid (lm_next HBK.out HKW.out)
        by_cases h3 : k < 3
        · have j1 : (k : Int) < 3 := by omega
          have j0 : (0 : Int) ≤ (k : Int) := by omega
          have l0 : wr.cell? ⟨b8, k, none⟩ = some (.string (S (orL f k))) := wcell_next (HLW.out k h3) HBK.out
          obtain ⟨r, co, hl, hco⟩ := or_all HF.out i h4 k h3
          rw [← HSE.out] at hl
          have HLE := hid (show (orL f k).length ≤ 140737488355328 by
            have h1 := angA_len HF.out
            obtain rfl | rfl | rfl : k = 0 ∨ k = 1 ∨ k = 2 := by omega
            all_goals simp [orL, mailU, rcptU, dataU]
            all_goals omega)
          obtain ⟨ln, hln⟩ : ∃ ln, ln = orL f k := ⟨_, rfl⟩
          rw [← hln] at l0 HLE hl
          have HL := hid hl
          have HCO := hid hco
          have HLN := hid (fun (u : World) (hu : Below wr.heap.size wr u) => line_ok (W := wr) HM.out HL.out (AdrsM.any ((own_next HOK.out hu).row (by have := may_to HM.out; unfold maxLen; omega))) (own_roomy HOK.out) (txt_one (c := 1) (lm_next hu HKR.out)) HLE.out hu)
          have HC := hid (fun (u : World) (hu : Below wr.heap.size wr u) => show (u.cell? ⟨b9, 0, none⟩ = some (.int .i64 s.step) ∧ u.cell? ⟨b9, 1, none⟩ = some (.string (S s.frm.1)) ∧ u.cell? ⟨b9, 2, none⟩ = some (.string (S s.frm.2)) ∧ u.cell? ⟨b9, 3, none⟩ = some (.slice sa s.to.length sk) ∧ u.cell? ⟨b9, 4, none⟩ = some (.string (S s.text)) ∧ u.cell? ⟨b9, 5, none⟩ = some (.bool s.large) ∧ u.cell? ⟨b8, k, none⟩ = some (.string (S ln))) from ⟨wcell_next z0 hu, wcell_next z1 hu, wcell_next z2 hu, wcell_next z3 hu, wcell_next z4 hu, wcell_next z5 hu, wcell_next l0 hu⟩)
          clear hl hco hln
          go_wp2_with fail
          go_cut [12, 13, 14, 15] (fun vp vc vl ve wx => LnB wr r co [] vp vc vl ve wx)
          case first =>
            go_region_held3 (fun u => u.cell? ⟨b9, 0, none⟩ = some (.int .i64 s.step) ∧ u.cell? ⟨b9, 1, none⟩ = some (.string (S s.frm.1)) ∧ u.cell? ⟨b9, 2, none⟩ = some (.string (S s.frm.2)) ∧ u.cell? ⟨b9, 3, none⟩ = some (.slice sa s.to.length sk) ∧ u.cell? ⟨b9, 4, none⟩ = some (.string (S s.text)) ∧ u.cell? ⟨b9, 5, none⟩ = some (.bool s.large) ∧ u.cell? ⟨b8, k, none⟩ = some (.string (S ln)))
              (first | (refine HC.out _ ?_; (repeat (first | with_reducible exact HB8.out | with_reducible exact Below.refl _ _ | with_reducible refine Below.drew ?_ | with_reducible refine Below.alloc ?_ (by first | exact Nat.le_refl _ | exact HZ8.out | (simp <;> omega) | simp) _ | with_reducible refine Below.setCell ?_ (by first | exact Nat.le_refl _ | (simp <;> omega) | simp) _))) | fail)
              (first
                | (go_at_call 11
                   refine (HLN.out _ ?_).mono ?_
                   · repeat (first | exact Below.refl _ _ | refine Below.drew ?_ | refine Below.alloc ?_ (by first | exact Nat.le_refl _ | simp) _)
                   rintro e w8 ⟨a8, k8, al, cl, rfl, ho8, ht8, hb8, hB8, hz8⟩
                   have HO8 := hid ho8
                   have HT8 := hid ht8
                   have HB8 := hid hB8
                   have HZ8 := hid hB8.size
                   have HU8 := hid hz8
                   first
                     | (have HK8 : Hid (w8.heap[wr.heap.size]? = some (.cells #[.int .i64 0, .string ⟨#[]⟩, .string ⟨#[]⟩, .slice none 0 0, .string ⟨#[]⟩, .bool false] 26)) := hid (lm_next hb8 (drew_at (lm_at0 _))); have hk8 := HK8.out; obtain ⟨g0, g1, g2, g3, g4, g5⟩ := ses_frz hk8; obtain ⟨x0, x1, x2, x3, x4, x5⟩ := ses_box hk8; clear hk8)
                     | skip
                   clear ho8 ht8 hb8 hB8 hz8)
                | fail)
            all_goals
              first
                | (have HE := hid (LnB.old (c := co) HO8.out HT8.out HB8.out HU8.out (by first | exact Nat.le_refl _ | omega) (by first | (simp; done) | (simp; omega)) HK8.out)
                   go_wp2_with fail
                   go_meet
                   exact HE.out)
                | (have HE := hid (LnB.new (c := co) HO8.out HT8.out HB8.out HU8.out)
                   go_wp2_with fail
                   go_meet
                   exact HE.out)
                | fail
          case rest =>
            obtain ⟨P, al, cl, rfl, rfl, rfl, rfl, hP, hRR, hRT, hb⟩ := hcut
            have HNB := hid (show Below wo.heap.size wo wc from HBK.out.trans (hb.mono HBK.out.size))
            have hco := HCO.out
            clear hRR hRT hb hP z0 z1 z2 z3 z4 z5 l0
            obtain rfl | rfl | rfl | rfl : i = 0 ∨ i = 1 ∨ i = 2 ∨ i = 3 := by omega
            all_goals
              obtain rfl | rfl | rfl : k = 0 ∨ k = 1 ∨ k = 2 := by omega
              all_goals
                simp only [canO] at hco
                go_wp2
                go_roundw
                case rel => first | exact ⟨1, by omega, rfl, HNB⟩ | exact ⟨2, by omega, rfl, HNB⟩ | exact ⟨3, by omega, rfl, HNB⟩
                case measure => simp [intOf]
        · obtain rfl : k = 3 := by omega
          have j1 : ¬ ((3 : Nat) : Int) < 3 := by omega
          have i0 : (0 : Int) ≤ (i : Int) := by omega
          have l0 : wr.cell? ⟨b8, 0, none⟩ = some (.string (S (orL f 0))) := wcell_next (HLW.out 0 (by omega)) HBK.out
          have l1 : wr.cell? ⟨b8, 1, none⟩ = some (.string (S (orL f 1))) := wcell_next (HLW.out 1 (by omega)) HBK.out
          obtain ⟨nx, hnx⟩ : ∃ nx, nx = nxL f i := ⟨_, rfl⟩
          obtain ⟨r, hr⟩ : ∃ r, r = rdS f f (min (i + 1) 3) := ⟨_, rfl⟩
          obtain ⟨co, hco⟩ : ∃ co : Int, co = 250 := ⟨_, rfl⟩
          have HL := hid (show lineM s [f.1] nx = (r, co, []) by rw [HSE.out, hnx, hr, hco]; exact nx_step HF.out i h4)
          have HLE := hid (show nx.length ≤ 140737488355328 by
            have h1 := angA_len HF.out
            rw [hnx]
            obtain rfl | rfl | rfl | rfl : i = 0 ∨ i = 1 ∨ i = 2 ∨ i = 3 := by omega
            all_goals simp [nxL, mailU, rcptU]
            all_goals omega)
          have HNX := hid hnx
          have HRE := hid hr
          have HCO := hid hco
          have HLN := hid (fun (u : World) (hu : Below wr.heap.size wr u) => line_ok (W := wr) HM.out HL.out (AdrsM.any ((own_next HOK.out hu).row (by have := may_to HM.out; unfold maxLen; omega))) (own_roomy HOK.out) (txt_one (c := 1) (lm_next hu HKR.out)) HLE.out hu)
          have HC := hid (fun (u : World) (hu : Below wr.heap.size wr u) => show (u.cell? ⟨b9, 0, none⟩ = some (.int .i64 s.step) ∧ u.cell? ⟨b9, 1, none⟩ = some (.string (S s.frm.1)) ∧ u.cell? ⟨b9, 2, none⟩ = some (.string (S s.frm.2)) ∧ u.cell? ⟨b9, 3, none⟩ = some (.slice sa s.to.length sk) ∧ u.cell? ⟨b9, 4, none⟩ = some (.string (S s.text)) ∧ u.cell? ⟨b9, 5, none⟩ = some (.bool s.large) ∧ u.cell? ⟨b8, 0, none⟩ = some (.string (S (orL f 0))) ∧ u.cell? ⟨b8, 1, none⟩ = some (.string (S (orL f 1)))) from ⟨wcell_next z0 hu, wcell_next z1 hu, wcell_next z2 hu, wcell_next z3 hu, wcell_next z4 hu, wcell_next z5 hu, wcell_next l0 hu, wcell_next l1 hu⟩)
          have HX9 := hid (lm_next HBK.out HSX.out)
          have HLT := hid (Nat.lt_of_lt_of_le HHL.out HBK.out.size)
          clear hnx hr hco h3
          go_wp2_with fail
          go_cut [17, 18, 19, 20] (fun vp vc vl ve wx => LnB wr r co [] vp vc vl ve wx)
          case first =>
            refine wp_region_held_drew (S := fun u => u.cell? ⟨b9, 0, none⟩ = some (.int .i64 s.step) ∧ u.cell? ⟨b9, 1, none⟩ = some (.string (S s.frm.1)) ∧ u.cell? ⟨b9, 2, none⟩ = some (.string (S s.frm.2)) ∧ u.cell? ⟨b9, 3, none⟩ = some (.slice sa s.to.length sk) ∧ u.cell? ⟨b9, 4, none⟩ = some (.string (S s.text)) ∧ u.cell? ⟨b9, 5, none⟩ = some (.bool s.large) ∧ u.cell? ⟨b8, 0, none⟩ = some (.string (S (orL f 0))) ∧ u.cell? ⟨b8, 1, none⟩ = some (.string (S (orL f 1)))) (by kernel_rfl) ?_ (fun hHeld => ?_)
            · exact HC.out _ ((Below.refl _ _).drew)
            refine wpAnyH_take (i := 0) (v := ?v1) rfl (by kernel_rfl) (by kernel_rfl) (by kernel_rfl) (fun _ _ _ h => h) (Or.inl ⟨by rfl, ?hy1⟩) (by assumption) ?_
            case hy1 =>
              intro w hSw
              (try dsimp only at hSw)
              go_simp
              all_goals with_reducible rfl
            change wpAnyH _ _ _ _ _ _ _ (Act.put _ (some 96) _) _
            try simp only [Act.put, List.setIfInBounds_toArray, List.set_cons_zero, List.set_cons_succ]
            refine wpAnyH_take (i := 1) (v := ?v2) rfl (by kernel_rfl) (by kernel_rfl) (by kernel_rfl) (fun _ _ _ h => h) (Or.inl ⟨by rfl, ?hy2⟩) (by assumption) ?_
            case hy2 =>
              intro w hSw
              (try dsimp only at hSw)
              go_simp
              all_goals with_reducible rfl
            change wpAnyH _ _ _ _ _ _ _ (Act.put _ (some 97) _) _
            try simp only [Act.put, List.setIfInBounds_toArray, List.set_cons_zero, List.set_cons_succ]
            refine wpAnyH_take (i := 2) (v := ?v3) rfl (by kernel_rfl) (by kernel_rfl) (by kernel_rfl) (fun _ _ _ h => h) (Or.inl ⟨by rfl, ?hy3⟩) (by assumption) ?_
            case hy3 =>
              intro w hSw
              (try dsimp only at hSw)
              go_simp
              all_goals with_reducible rfl
            change wpAnyH _ _ _ _ _ _ _ (Act.put _ (some 98) _) _
            try simp only [Act.put, List.setIfInBounds_toArray, List.set_cons_zero, List.set_cons_succ]
            refine wpAnyH_take (i := 3) (v := ?v4) rfl (by kernel_rfl) (by kernel_rfl) (by kernel_rfl) (fun _ _ _ h => h) (Or.inl ⟨by rfl, ?hy4⟩) (by assumption) ?_
            case hy4 =>
              intro w hSw
              (try dsimp only at hSw)
              go_simp
              all_goals with_reducible rfl
            change wpAnyH _ _ _ _ _ _ _ (Act.put _ (some 99) _) _
            try simp only [Act.put, List.setIfInBounds_toArray, List.set_cons_zero, List.set_cons_succ]
            refine wpAnyH_take (i := 4) (v := ?v5) rfl (by kernel_rfl) (by kernel_rfl) (by kernel_rfl) (fun _ _ _ h => h) (Or.inl ⟨by rfl, ?hy5⟩) (by assumption) ?_
            case hy5 =>
              intro w hSw
              (try dsimp only at hSw)
              go_simp
              all_goals with_reducible rfl
            change wpAnyH _ _ _ _ _ _ _ (Act.put _ (some 100) _) _
            try simp only [Act.put, List.setIfInBounds_toArray, List.set_cons_zero, List.set_cons_succ]
            refine wpAnyH_take (i := 5) (v := ?v6) rfl (by kernel_rfl) (by kernel_rfl) (by kernel_rfl) (fun _ _ _ h => h) (Or.inl ⟨by rfl, ?hy6⟩) (by assumption) ?_
            case hy6 =>
              intro w hSw
              (try dsimp only at hSw)
              go_simp
              all_goals with_reducible rfl
            change wpAnyH _ _ _ _ _ _ _ (Act.put _ (some 101) _) _
            try simp only [Act.put, List.setIfInBounds_toArray, List.set_cons_zero, List.set_cons_succ]
            refine wpAnyH_take (i := 6) (v := ?v7) rfl (by kernel_rfl) (by kernel_rfl) (by kernel_rfl) (fun _ _ _ h => h) (Or.inl ⟨by rfl, ?hy7⟩) (by assumption) ?_
            case hy7 =>
              intro w hSw
              (try dsimp only at hSw)
              go_simp
              all_goals with_reducible rfl
            change wpAnyH _ _ _ _ _ _ _ (Act.put _ (some 102) _) _
            try simp only [Act.put, List.setIfInBounds_toArray, List.set_cons_zero, List.set_cons_succ]
            refine wpAnyH_take (i := 7) (v := ?v8) rfl (by kernel_rfl) (by kernel_rfl) (by kernel_rfl) (fun _ _ _ h => h) (Or.inl ⟨by rfl, ?hy8⟩) (by assumption) ?_
            case hy8 =>
              intro w hSw
              (try dsimp only at hSw)
              go_simp
              all_goals with_reducible rfl
            change wpAnyH _ _ _ _ _ _ _ (Act.put _ (some 103) _) _
            try simp only [Act.put, List.setIfInBounds_toArray, List.set_cons_zero, List.set_cons_succ]
            refine wpAnyH_take (i := 9) (v := ?v9) rfl (by kernel_rfl) (by kernel_rfl) (by kernel_rfl) (fun _ _ _ h => h) (Or.inl ⟨by rfl, ?hy9⟩) (by assumption) ?_
            case hy9 =>
              intro w hSw
              (try dsimp only at hSw)
              go_simp
              all_goals with_reducible rfl
            change wpAnyH _ _ _ _ _ _ _ (Act.put _ (some 105) _) _
            try simp only [Act.put, List.setIfInBounds_toArray, List.set_cons_zero, List.set_cons_succ]
            refine wpAnyH_ready (rs := [8, 18]) (by kernel_rfl) (by simp) ?_
            refine AllReadyH.cons rfl (fun K hK => ?_) ?_
            · skip
              go_simp
              refine hK.out _ _ ?_ (fun hHeld => ?_)
              · refine HC.out _ ?_
                (repeat (first | with_reducible exact HB8.out | with_reducible exact Below.refl _ _ | with_reducible refine Below.drew ?_ | with_reducible refine Below.alloc ?_ (by first | exact Nat.le_refl _ | exact HZ8.out | (simp <;> omega) | simp) _ | with_reducible refine Below.setCell ?_ (by first | exact Nat.le_refl _ | exact HPL.out | (simp <;> omega) | simp) _))
              clear hK K
              try simp only [Act.put, List.setIfInBounds_toArray, List.set_cons_zero, List.set_cons_succ]
              have HEC := hid (nx_cell (R := wr.heap.size) (show (_ : World).heap[wr.heap.size]? = _ from drew_at (lm_at0 _)) h4 HNX.out)
              refine wpAnyH_switch (E := fun u : World => u.cell? ⟨wr.heap.size, i, none⟩ = some (.string (S nx))) hHeld HEC.out (fun hHeld1 => ?_)
              clear hHeld
              refine wpAnyH_take (i := 10) (v := ?v10) rfl (by kernel_rfl) (by kernel_rfl) (by kernel_rfl) (fun _ _ _ h => h) (Or.inl ⟨by rfl, ?hy10⟩) (by assumption) ?_
              case hy10 =>
                intro w hSw
                (try dsimp only at hSw)
                go_simp
                all_goals with_reducible rfl
              change wpAnyH _ _ _ _ _ _ _ (Act.put _ (some 106) _) _
              try simp only [Act.put, List.setIfInBounds_toArray, List.set_cons_zero, List.set_cons_succ]
              refine wpAnyH_take (i := 11) (v := ?v11) rfl (by kernel_rfl) (by kernel_rfl) (by kernel_rfl) (fun _ _ _ h => h) (Or.inl ⟨by rfl, ?hy11⟩) (by assumption) ?_
              case hy11 =>
                intro w hSw
                (try dsimp only at hSw)
                go_simp
                all_goals with_reducible rfl
              change wpAnyH _ _ _ _ _ _ _ (Act.put _ (some 107) _) _
              try simp only [Act.put, List.setIfInBounds_toArray, List.set_cons_zero, List.set_cons_succ]
              refine wpAnyH_ready (rs := [12, 18]) (by kernel_rfl) (by simp) ?_
              refine AllReadyH.cons rfl (fun K hK => ?_) ?_
              · skip
                go_simp
                refine (HLN.out _ ?_).mono ?_
                · (repeat (first | with_reducible exact Below.refl _ _ | with_reducible refine Below.drew ?_ | with_reducible refine Below.alloc ?_ (by first | exact Nat.le_refl _ | (simp <;> omega) | simp) _ | with_reducible refine Below.setCell ?_ (by first | exact Nat.le_refl _ | (simp <;> omega) | simp) _))
                rintro e w8 ⟨a8, k8, al, cl, rfl, ho8, ht8, hb8, hB8, hz8⟩
                have HO8 := hid ho8
                have HT8 := hid ht8
                have HB8 := hid hB8
                have HZ8 := hid (hB8.size)
                have HU8 := hid hz8
                have hE8 := wcell_next (show (_ : World).cell? ⟨wr.heap.size, i, none⟩ = _ from (by first | exact hHeld1.2 | exact hHeld.2)) hb8
                have hnP : wr.heap.size ≠ w8.heap.size := by have h1 : wr.heap.size + 1 ≤ w8.heap.size := (by have h2 := hb8.size; simpa using h2); omega
                clear ho8 ht8 hb8 hB8 hz8
                go_wp2_with fail
                refine hK.out _ _ ?_ (fun hHeld => ?_)
                · refine ⟨HC.out _ ?_, ?_⟩
                  · (repeat (first | with_reducible exact HB8.out | with_reducible exact Below.refl _ _ | with_reducible refine Below.drew ?_ | with_reducible refine Below.alloc ?_ (by first | exact Nat.le_refl _ | exact HZ8.out | (simp <;> omega) | simp) _ | with_reducible refine Below.setCell ?_ (by first | exact Nat.le_refl _ | exact HPL.out | (simp <;> omega) | simp) _))
                  · exact hE8
                clear hK K
                try simp only [Act.put, List.setIfInBounds_toArray, List.set_cons_zero, List.set_cons_succ]
                refine wpAnyH_take (i := 13) (v := ?v12) rfl (by kernel_rfl) (by kernel_rfl) (by kernel_rfl) (fun _ _ _ h => h) (Or.inl ⟨by rfl, ?hy12⟩) (by assumption) ?_
                case hy12 =>
                  intro w hSw
                  (try dsimp only at hSw)
                  go_simp
                  all_goals with_reducible rfl
                change wpAnyH _ _ _ _ _ _ _ (Act.put _ (some 95) _) _
                try simp only [Act.put, List.setIfInBounds_toArray, List.set_cons_zero, List.set_cons_succ]
                refine wpAnyH_take (i := 14) (v := ?v13) rfl (by kernel_rfl) (by kernel_rfl) (by kernel_rfl) (fun _ _ _ h => h) (Or.inl ⟨by rfl, ?hy13⟩) (by assumption) ?_
                case hy13 =>
                  intro w hSw
                  (try dsimp only at hSw)
                  go_simp
                  all_goals with_reducible rfl
                change wpAnyH _ _ _ _ _ _ _ (Act.put _ (some 109) _) _
                try simp only [Act.put, List.setIfInBounds_toArray, List.set_cons_zero, List.set_cons_succ]
                refine wpAnyH_take (i := 15) (v := ?v14) rfl (by kernel_rfl) (by kernel_rfl) (by kernel_rfl) (fun _ _ _ h => h) (Or.inl ⟨by rfl, ?hy14⟩) (by assumption) ?_
                case hy14 =>
                  intro w hSw
                  (try dsimp only at hSw)
                  go_simp
                  all_goals with_reducible rfl
                change wpAnyH _ _ _ _ _ _ _ (Act.put _ (some 110) _) _
                try simp only [Act.put, List.setIfInBounds_toArray, List.set_cons_zero, List.set_cons_succ]
                refine wpAnyH_take (i := 16) (v := ?v15) rfl (by kernel_rfl) (by kernel_rfl) (by kernel_rfl) (fun _ _ _ h => h) (Or.inl ⟨by rfl, ?hy15⟩) (by assumption) ?_
                case hy15 =>
                  intro w hSw
                  (try dsimp only at hSw)
                  go_simp
                  all_goals with_reducible rfl
                change wpAnyH _ _ _ _ _ _ _ (Act.put _ (some 111) _) _
                try simp only [Act.put, List.setIfInBounds_toArray, List.set_cons_zero, List.set_cons_succ]
                refine wpAnyH_take (i := 17) (v := ?v16) rfl (by kernel_rfl) (by kernel_rfl) (by kernel_rfl) (fun _ _ _ h => h) (Or.inl ⟨by rfl, ?hy16⟩) (by assumption) ?_
                case hy16 =>
                  intro w hSw
                  (try dsimp only at hSw)
                  go_simp
                  all_goals with_reducible rfl
                change wpAnyH _ _ _ _ _ _ _ (Act.put _ (some 112) _) _
                try simp only [Act.put, List.setIfInBounds_toArray, List.set_cons_zero, List.set_cons_succ]
                refine wpAnyH_ready (rs := [18]) (by kernel_rfl) (by simp) ?_
                refine AllReadyH.cons rfl (fun K hK => ?_) AllReadyH.nil
                go_simp
                refine hK.out _ _ ?_ (fun hHeld => ?_)
                · refine ⟨HC.out _ ?_, ?_⟩
                  · (repeat (first | with_reducible exact HB8.out | with_reducible exact Below.refl _ _ | with_reducible refine Below.drew ?_ | with_reducible refine Below.alloc ?_ (by first | exact Nat.le_refl _ | exact HZ8.out | (simp <;> omega) | simp) _ | with_reducible refine Below.setCell ?_ (by first | exact Nat.le_refl _ | exact HPL.out | (simp <;> omega) | simp) _))
                  · first | exact wcell_next hE8 ((Below.refl _ _).alloc (Nat.le_refl _) _) | exact wcell_next HEC.out ((Below.refl _ _).alloc (Nat.le_refl _) _)
                clear hK K
                try simp only [Act.put, List.setIfInBounds_toArray, List.set_cons_zero, List.set_cons_succ]
                have HEE := hid (LnB.new (c := co) HO8.out HT8.out HB8.out HU8.out)
                have HPL := HZ8
                refine wpAnyH_ready (rs := [19]) (by kernel_rfl) (by simp) ?_
                refine AllReadyH.cons rfl (fun K hK => ?_) AllReadyH.nil
                go_simp
                refine hK.out _ _ ?_ (fun hHeld => ?_)
                · refine ⟨HC.out _ ?_, ?_⟩
                  · (repeat (first | with_reducible exact HB8.out | with_reducible exact Below.refl _ _ | with_reducible refine Below.drew ?_ | with_reducible refine Below.alloc ?_ (by first | exact Nat.le_refl _ | exact HZ8.out | (simp <;> omega) | simp) _ | with_reducible refine Below.setCell ?_ (by first | exact Nat.le_refl _ | exact HPL.out | (simp <;> omega) | simp) _))
                  · (repeat (first | with_reducible exact hE8 | with_reducible refine lm_far ?_ hnP | refine wcell_next hE8 ((Below.refl _ _).alloc (Nat.le_refl _) _)))
                clear hK K
                try simp only [Act.put, List.setIfInBounds_toArray, List.set_cons_zero, List.set_cons_succ]
                refine wpAnyH_take (i := 20) (v := ?v17) rfl (by kernel_rfl) (by kernel_rfl) (by kernel_rfl) (fun _ _ _ h => h) (Or.inl ⟨by rfl, ?hy17⟩) (by assumption) ?_
                case hy17 =>
                  intro w hSw
                  (try dsimp only at hSw)
                  go_simp
                  all_goals with_reducible rfl
                change wpAnyH _ _ _ _ _ _ _ (Act.put _ (some 18) _) _
                try simp only [Act.put, List.setIfInBounds_toArray, List.set_cons_zero, List.set_cons_succ]
                refine wpAnyH_take (i := 21) (v := ?v18) rfl (by kernel_rfl) (by kernel_rfl) (by kernel_rfl) (fun _ _ _ h => h) (Or.inl ⟨by rfl, ?hy18⟩) (by assumption) ?_
                case hy18 =>
                  intro w hSw
                  (try dsimp only at hSw)
                  go_simp
                  all_goals with_reducible rfl
                change wpAnyH _ _ _ _ _ _ _ (Act.put _ (some 19) _) _
                try simp only [Act.put, List.setIfInBounds_toArray, List.set_cons_zero, List.set_cons_succ]
                refine wpAnyH_take (i := 22) (v := ?v19) rfl (by kernel_rfl) (by kernel_rfl) (by kernel_rfl) (fun _ _ _ h => h) (Or.inl ⟨by rfl, ?hy19⟩) (by assumption) ?_
                case hy19 =>
                  intro w hSw
                  (try dsimp only at hSw)
                  go_simp
                  all_goals with_reducible rfl
                change wpAnyH _ _ _ _ _ _ _ (Act.put _ (some 20) _) _
                try simp only [Act.put, List.setIfInBounds_toArray, List.set_cons_zero, List.set_cons_succ]
                refine wpAnyH_done (by kernel_rfl) ?_ _
                have HE := HEE
                go_wp2_with fail
                go_meet
                exact HE.out
              refine AllReadyH.cons rfl (fun K hK => ?_) AllReadyH.nil
              go_simp
              refine hK.out _ _ ?_ (fun hHeld => ?_)
              · refine ⟨HC.out _ ?_, ?_⟩
                · (repeat (first | with_reducible exact HB8.out | with_reducible exact Below.refl _ _ | with_reducible refine Below.drew ?_ | with_reducible refine Below.alloc ?_ (by first | exact Nat.le_refl _ | exact HZ8.out | (simp <;> omega) | simp) _ | with_reducible refine Below.setCell ?_ (by first | exact Nat.le_refl _ | exact HPL.out | (simp <;> omega) | simp) _))
                · first | exact wcell_next hE8 ((Below.refl _ _).alloc (Nat.le_refl _) _) | exact wcell_next HEC.out ((Below.refl _ _).alloc (Nat.le_refl _) _)
              clear hK K
              try simp only [Act.put, List.setIfInBounds_toArray, List.set_cons_zero, List.set_cons_succ]
              refine wpAnyH_ready (rs := [12]) (by kernel_rfl) (by simp) ?_
              refine AllReadyH.cons rfl (fun K hK => ?_) AllReadyH.nil
              go_simp
              refine (HLN.out _ ?_).mono ?_
              · (repeat (first | with_reducible exact Below.refl _ _ | with_reducible refine Below.drew ?_ | with_reducible refine Below.alloc ?_ (by first | exact Nat.le_refl _ | (simp <;> omega) | simp) _ | with_reducible refine Below.setCell ?_ (by first | exact Nat.le_refl _ | (simp <;> omega) | simp) _))
              rintro e w8 ⟨a8, k8, al, cl, rfl, ho8, ht8, hb8, hB8, hz8⟩
              have HO8 := hid ho8
              have HT8 := hid ht8
              have HB8 := hid hB8
              have HZ8 := hid (hB8.size)
              have HU8 := hid hz8
              have HK8 : Hid (w8.heap[wr.heap.size + 1]? = some (.cells #[.int .i64 0, .string ⟨#[]⟩, .string ⟨#[]⟩, .slice none 0 0, .string ⟨#[]⟩, .bool false] 26)) := hid (lm_next hb8 (drew_at (lm_at1 _ _)))
              have hk8 := HK8.out
              obtain ⟨g0, g1, g2, g3, g4, g5⟩ := ses_frz hk8
              obtain ⟨x0, x1, x2, x3, x4, x5⟩ := ses_box hk8
              clear hk8
              have HPL := hid (show wr.heap.size ≤ wr.heap.size + 1 by omega)
              have HEE := hid (LnB.old (c := co) HO8.out HT8.out HB8.out HU8.out HPL.out (by first | (simp; done) | (simp; omega)) HK8.out)
              have hE8 := wcell_next (show (_ : World).cell? ⟨wr.heap.size, i, none⟩ = _ from (by first | exact hHeld1.2 | exact hHeld.2)) hb8
              have hnP : wr.heap.size ≠ wr.heap.size + 1 := by omega
              clear ho8 ht8 hb8 hB8 hz8
              go_wp2_with fail
              refine hK.out _ _ ?_ (fun hHeld => ?_)
              · refine ⟨HC.out _ ?_, ?_⟩
                · (repeat (first | with_reducible exact HB8.out | with_reducible exact Below.refl _ _ | with_reducible refine Below.drew ?_ | with_reducible refine Below.alloc ?_ (by first | exact Nat.le_refl _ | exact HZ8.out | (simp <;> omega) | simp) _ | with_reducible refine Below.setCell ?_ (by first | exact Nat.le_refl _ | exact HPL.out | (simp <;> omega) | simp) _))
                · exact hE8
              clear hK K
              try simp only [Act.put, List.setIfInBounds_toArray, List.set_cons_zero, List.set_cons_succ]
              refine wpAnyH_take (i := 13) (v := ?v20) rfl (by kernel_rfl) (by kernel_rfl) (by kernel_rfl) (fun _ _ _ h => h) (Or.inl ⟨by rfl, ?hy20⟩) (by assumption) ?_
              case hy20 =>
                intro w hSw
                (try dsimp only at hSw)
                go_simp
                all_goals with_reducible rfl
              change wpAnyH _ _ _ _ _ _ _ (Act.put _ (some 95) _) _
              try simp only [Act.put, List.setIfInBounds_toArray, List.set_cons_zero, List.set_cons_succ]
              refine wpAnyH_take (i := 14) (v := ?v21) rfl (by kernel_rfl) (by kernel_rfl) (by kernel_rfl) (fun _ _ _ h => h) (Or.inl ⟨by rfl, ?hy21⟩) (by assumption) ?_
              case hy21 =>
                intro w hSw
                (try dsimp only at hSw)
                go_simp
                all_goals with_reducible rfl
              change wpAnyH _ _ _ _ _ _ _ (Act.put _ (some 109) _) _
              try simp only [Act.put, List.setIfInBounds_toArray, List.set_cons_zero, List.set_cons_succ]
              refine wpAnyH_take (i := 15) (v := ?v22) rfl (by kernel_rfl) (by kernel_rfl) (by kernel_rfl) (fun _ _ _ h => h) (Or.inl ⟨by rfl, ?hy22⟩) (by assumption) ?_
              case hy22 =>
                intro w hSw
                (try dsimp only at hSw)
                go_simp
                all_goals with_reducible rfl
              change wpAnyH _ _ _ _ _ _ _ (Act.put _ (some 110) _) _
              try simp only [Act.put, List.setIfInBounds_toArray, List.set_cons_zero, List.set_cons_succ]
              refine wpAnyH_take (i := 16) (v := ?v23) rfl (by kernel_rfl) (by kernel_rfl) (by kernel_rfl) (fun _ _ _ h => h) (Or.inl ⟨by rfl, ?hy23⟩) (by assumption) ?_
              case hy23 =>
                intro w hSw
                (try dsimp only at hSw)
                go_simp
                all_goals with_reducible rfl
              change wpAnyH _ _ _ _ _ _ _ (Act.put _ (some 111) _) _
              try simp only [Act.put, List.setIfInBounds_toArray, List.set_cons_zero, List.set_cons_succ]
              refine wpAnyH_take (i := 17) (v := ?v24) rfl (by kernel_rfl) (by kernel_rfl) (by kernel_rfl) (fun _ _ _ h => h) (Or.inl ⟨by rfl, ?hy24⟩) (by assumption) ?_
              case hy24 =>
                intro w hSw
                (try dsimp only at hSw)
                go_simp
                all_goals with_reducible rfl
              change wpAnyH _ _ _ _ _ _ _ (Act.put _ (some 112) _) _
              try simp only [Act.put, List.setIfInBounds_toArray, List.set_cons_zero, List.set_cons_succ]
              refine wpAnyH_ready (rs := [19]) (by kernel_rfl) (by simp) ?_
              refine AllReadyH.cons rfl (fun K hK => ?_) AllReadyH.nil
              go_simp
              refine hK.out _ _ ?_ (fun hHeld => ?_)
              · refine ⟨HC.out _ ?_, ?_⟩
                · (repeat (first | with_reducible exact HB8.out | with_reducible exact Below.refl _ _ | with_reducible refine Below.drew ?_ | with_reducible refine Below.alloc ?_ (by first | exact Nat.le_refl _ | exact HZ8.out | (simp <;> omega) | simp) _ | with_reducible refine Below.setCell ?_ (by first | exact Nat.le_refl _ | exact HPL.out | (simp <;> omega) | simp) _))
                · (repeat (first | with_reducible exact hE8 | with_reducible refine lm_far ?_ hnP))
              clear hK K
              try simp only [Act.put, List.setIfInBounds_toArray, List.set_cons_zero, List.set_cons_succ]
              refine wpAnyH_take (i := 20) (v := ?v25) rfl (by kernel_rfl) (by kernel_rfl) (by kernel_rfl) (fun _ _ _ h => h) (Or.inl ⟨by rfl, ?hy25⟩) (by assumption) ?_
              case hy25 =>
                intro w hSw
                (try dsimp only at hSw)
                go_simp
                all_goals with_reducible rfl
              change wpAnyH _ _ _ _ _ _ _ (Act.put _ (some 18) _) _
              try simp only [Act.put, List.setIfInBounds_toArray, List.set_cons_zero, List.set_cons_succ]
              refine wpAnyH_take (i := 21) (v := ?v26) rfl (by kernel_rfl) (by kernel_rfl) (by kernel_rfl) (fun _ _ _ h => h) (Or.inl ⟨by rfl, ?hy26⟩) (by assumption) ?_
              case hy26 =>
                intro w hSw
                (try dsimp only at hSw)
                go_simp
                all_goals with_reducible rfl
              change wpAnyH _ _ _ _ _ _ _ (Act.put _ (some 19) _) _
              try simp only [Act.put, List.setIfInBounds_toArray, List.set_cons_zero, List.set_cons_succ]
              refine wpAnyH_take (i := 22) (v := ?v27) rfl (by kernel_rfl) (by kernel_rfl) (by kernel_rfl) (fun _ _ _ h => h) (Or.inl ⟨by rfl, ?hy27⟩) (by assumption) ?_
              case hy27 =>
                intro w hSw
                (try dsimp only at hSw)
                go_simp
                all_goals with_reducible rfl
              change wpAnyH _ _ _ _ _ _ _ (Act.put _ (some 20) _) _
              try simp only [Act.put, List.setIfInBounds_toArray, List.set_cons_zero, List.set_cons_succ]
              refine wpAnyH_done (by kernel_rfl) ?_ _
              have HE := HEE
              go_wp2_with fail
              go_meet
              exact HE.out
            refine AllReadyH.cons rfl (fun K hK => ?_) AllReadyH.nil
            go_simp
            refine hK.out _ _ ?_ (fun hHeld => ?_)
            · refine HC.out _ ?_
              (repeat (first | with_reducible exact HB8.out | with_reducible exact Below.refl _ _ | with_reducible refine Below.drew ?_ | with_reducible refine Below.alloc ?_ (by first | exact Nat.le_refl _ | exact HZ8.out | (simp <;> omega) | simp) _ | with_reducible refine Below.setCell ?_ (by first | exact Nat.le_refl _ | exact HPL.out | (simp <;> omega) | simp) _))
            clear hK K
            try simp only [Act.put, List.setIfInBounds_toArray, List.set_cons_zero, List.set_cons_succ]
            refine wpAnyH_ready (rs := [8]) (by kernel_rfl) (by simp) ?_
            refine AllReadyH.cons rfl (fun K hK => ?_) AllReadyH.nil
            go_simp
            refine hK.out _ _ ?_ (fun hHeld => ?_)
            · refine HC.out _ ?_
              (repeat (first | with_reducible exact HB8.out | with_reducible exact Below.refl _ _ | with_reducible refine Below.drew ?_ | with_reducible refine Below.alloc ?_ (by first | exact Nat.le_refl _ | exact HZ8.out | (simp <;> omega) | simp) _ | with_reducible refine Below.setCell ?_ (by first | exact Nat.le_refl _ | exact HPL.out | (simp <;> omega) | simp) _))
            clear hK K
            try simp only [Act.put, List.setIfInBounds_toArray, List.set_cons_zero, List.set_cons_succ]
            have HEC := hid (nx_cell (R := wr.heap.size + 1) (show (_ : World).heap[wr.heap.size + 1]? = _ from drew_at (lm_at1 (.cells #[.int .i64 0, .string ⟨#[]⟩, .string ⟨#[]⟩, .slice none 0 0, .string ⟨#[]⟩, .bool false] 26) _)) h4 HNX.out)
            refine wpAnyH_switch (E := fun u : World => u.cell? ⟨wr.heap.size + 1, i, none⟩ = some (.string (S nx))) hHeld HEC.out (fun hHeld1 => ?_)
            clear hHeld
            refine wpAnyH_take (i := 10) (v := ?v28) rfl (by kernel_rfl) (by kernel_rfl) (by kernel_rfl) (fun _ _ _ h => h) (Or.inl ⟨by rfl, ?hy28⟩) (by assumption) ?_
            case hy28 =>
              intro w hSw
              (try dsimp only at hSw)
              go_simp
              all_goals with_reducible rfl
            change wpAnyH _ _ _ _ _ _ _ (Act.put _ (some 106) _) _
            try simp only [Act.put, List.setIfInBounds_toArray, List.set_cons_zero, List.set_cons_succ]
            refine wpAnyH_take (i := 11) (v := ?v29) rfl (by kernel_rfl) (by kernel_rfl) (by kernel_rfl) (fun _ _ _ h => h) (Or.inl ⟨by rfl, ?hy29⟩) (by assumption) ?_
            case hy29 =>
              intro w hSw
              (try dsimp only at hSw)
              go_simp
              all_goals with_reducible rfl
            change wpAnyH _ _ _ _ _ _ _ (Act.put _ (some 107) _) _
            try simp only [Act.put, List.setIfInBounds_toArray, List.set_cons_zero, List.set_cons_succ]
            refine wpAnyH_ready (rs := [12]) (by kernel_rfl) (by simp) ?_
            refine AllReadyH.cons rfl (fun K hK => ?_) AllReadyH.nil
            go_simp
            refine (HLN.out _ ?_).mono ?_
            · (repeat (first | with_reducible exact Below.refl _ _ | with_reducible refine Below.drew ?_ | with_reducible refine Below.alloc ?_ (by first | exact Nat.le_refl _ | (simp <;> omega) | simp) _ | with_reducible refine Below.setCell ?_ (by first | exact Nat.le_refl _ | (simp <;> omega) | simp) _))
            rintro e w8 ⟨a8, k8, al, cl, rfl, ho8, ht8, hb8, hB8, hz8⟩
            have HO8 := hid ho8
            have HT8 := hid ht8
            have HB8 := hid hB8
            have HZ8 := hid (hB8.size)
            have HU8 := hid hz8
            have HK8 : Hid (w8.heap[wr.heap.size]? = some (.cells #[.int .i64 0, .string ⟨#[]⟩, .string ⟨#[]⟩, .slice none 0 0, .string ⟨#[]⟩, .bool false] 26)) := hid (lm_next hb8 (drew_at (lm_up0 _ _)))
            have hk8 := HK8.out
            obtain ⟨g0, g1, g2, g3, g4, g5⟩ := ses_frz hk8
            obtain ⟨x0, x1, x2, x3, x4, x5⟩ := ses_box hk8
            clear hk8
            have HPL := hid (show wr.heap.size ≤ wr.heap.size by omega)
            have HEE := hid (LnB.old (c := co) HO8.out HT8.out HB8.out HU8.out HPL.out (by first | (simp; done) | (simp; omega)) HK8.out)
            have hE8 := wcell_next (show (_ : World).cell? ⟨wr.heap.size + 1, i, none⟩ = _ from (by first | exact hHeld1.2 | exact hHeld.2)) hb8
            have hnP : wr.heap.size + 1 ≠ wr.heap.size := by omega
            clear ho8 ht8 hb8 hB8 hz8
            go_wp2_with fail
            refine hK.out _ _ ?_ (fun hHeld => ?_)
            · refine ⟨HC.out _ ?_, ?_⟩
              · (repeat (first | with_reducible exact HB8.out | with_reducible exact Below.refl _ _ | with_reducible refine Below.drew ?_ | with_reducible refine Below.alloc ?_ (by first | exact Nat.le_refl _ | exact HZ8.out | (simp <;> omega) | simp) _ | with_reducible refine Below.setCell ?_ (by first | exact Nat.le_refl _ | exact HPL.out | (simp <;> omega) | simp) _))
              · exact hE8
            clear hK K
            try simp only [Act.put, List.setIfInBounds_toArray, List.set_cons_zero, List.set_cons_succ]
            refine wpAnyH_take (i := 13) (v := ?v30) rfl (by kernel_rfl) (by kernel_rfl) (by kernel_rfl) (fun _ _ _ h => h) (Or.inl ⟨by rfl, ?hy30⟩) (by assumption) ?_
            case hy30 =>
              intro w hSw
              (try dsimp only at hSw)
              go_simp
              all_goals with_reducible rfl
            change wpAnyH _ _ _ _ _ _ _ (Act.put _ (some 95) _) _
            try simp only [Act.put, List.setIfInBounds_toArray, List.set_cons_zero, List.set_cons_succ]
            refine wpAnyH_take (i := 14) (v := ?v31) rfl (by kernel_rfl) (by kernel_rfl) (by kernel_rfl) (fun _ _ _ h => h) (Or.inl ⟨by rfl, ?hy31⟩) (by assumption) ?_
            case hy31 =>
              intro w hSw
              (try dsimp only at hSw)
              go_simp
              all_goals with_reducible rfl
            change wpAnyH _ _ _ _ _ _ _ (Act.put _ (some 109) _) _
            try simp only [Act.put, List.setIfInBounds_toArray, List.set_cons_zero, List.set_cons_succ]
            refine wpAnyH_take (i := 15) (v := ?v32) rfl (by kernel_rfl) (by kernel_rfl) (by kernel_rfl) (fun _ _ _ h => h) (Or.inl ⟨by rfl, ?hy32⟩) (by assumption) ?_
            case hy32 =>
              intro w hSw
              (try dsimp only at hSw)
              go_simp
              all_goals with_reducible rfl
            change wpAnyH _ _ _ _ _ _ _ (Act.put _ (some 110) _) _
            try simp only [Act.put, List.setIfInBounds_toArray, List.set_cons_zero, List.set_cons_succ]
            refine wpAnyH_take (i := 16) (v := ?v33) rfl (by kernel_rfl) (by kernel_rfl) (by kernel_rfl) (fun _ _ _ h => h) (Or.inl ⟨by rfl, ?hy33⟩) (by assumption) ?_
            case hy33 =>
              intro w hSw
              (try dsimp only at hSw)
              go_simp
              all_goals with_reducible rfl
            change wpAnyH _ _ _ _ _ _ _ (Act.put _ (some 111) _) _
            try simp only [Act.put, List.setIfInBounds_toArray, List.set_cons_zero, List.set_cons_succ]
            refine wpAnyH_take (i := 17) (v := ?v34) rfl (by kernel_rfl) (by kernel_rfl) (by kernel_rfl) (fun _ _ _ h => h) (Or.inl ⟨by rfl, ?hy34⟩) (by assumption) ?_
            case hy34 =>
              intro w hSw
              (try dsimp only at hSw)
              go_simp
              all_goals with_reducible rfl
            change wpAnyH _ _ _ _ _ _ _ (Act.put _ (some 112) _) _
            try simp only [Act.put, List.setIfInBounds_toArray, List.set_cons_zero, List.set_cons_succ]
            refine wpAnyH_ready (rs := [19]) (by kernel_rfl) (by simp) ?_
            refine AllReadyH.cons rfl (fun K hK => ?_) AllReadyH.nil
            go_simp
            refine hK.out _ _ ?_ (fun hHeld => ?_)
            · refine ⟨HC.out _ ?_, ?_⟩
              · (repeat (first | with_reducible exact HB8.out | with_reducible exact Below.refl _ _ | with_reducible refine Below.drew ?_ | with_reducible refine Below.alloc ?_ (by first | exact Nat.le_refl _ | exact HZ8.out | (simp <;> omega) | simp) _ | with_reducible refine Below.setCell ?_ (by first | exact Nat.le_refl _ | exact HPL.out | (simp <;> omega) | simp) _))
              · (repeat (first | with_reducible exact hE8 | with_reducible refine lm_far ?_ hnP))
            clear hK K
            try simp only [Act.put, List.setIfInBounds_toArray, List.set_cons_zero, List.set_cons_succ]
            refine wpAnyH_take (i := 20) (v := ?v35) rfl (by kernel_rfl) (by kernel_rfl) (by kernel_rfl) (fun _ _ _ h => h) (Or.inl ⟨by rfl, ?hy35⟩) (by assumption) ?_
            case hy35 =>
              intro w hSw
              (try dsimp only at hSw)
              go_simp
              all_goals with_reducible rfl
            change wpAnyH _ _ _ _ _ _ _ (Act.put _ (some 18) _) _
            try simp only [Act.put, List.setIfInBounds_toArray, List.set_cons_zero, List.set_cons_succ]
            refine wpAnyH_take (i := 21) (v := ?v36) rfl (by kernel_rfl) (by kernel_rfl) (by kernel_rfl) (fun _ _ _ h => h) (Or.inl ⟨by rfl, ?hy36⟩) (by assumption) ?_
            case hy36 =>
              intro w hSw
              (try dsimp only at hSw)
              go_simp
              all_goals with_reducible rfl
            change wpAnyH _ _ _ _ _ _ _ (Act.put _ (some 19) _) _
            try simp only [Act.put, List.setIfInBounds_toArray, List.set_cons_zero, List.set_cons_succ]
            refine wpAnyH_take (i := 22) (v := ?v37) rfl (by kernel_rfl) (by kernel_rfl) (by kernel_rfl) (fun _ _ _ h => h) (Or.inl ⟨by rfl, ?hy37⟩) (by assumption) ?_
            case hy37 =>
              intro w hSw
              (try dsimp only at hSw)
              go_simp
              all_goals with_reducible rfl
            change wpAnyH _ _ _ _ _ _ _ (Act.put _ (some 20) _) _
            try simp only [Act.put, List.setIfInBounds_toArray, List.set_cons_zero, List.set_cons_succ]
            refine wpAnyH_done (by kernel_rfl) ?_ _
            have HE := HEE
            go_wp2_with fail
            go_meet
            exact HE.out
          case rest =>
            obtain ⟨P, al, cl, rfl, rfl, rfl, rfl, hP, ⟨ra, rk, hR, hRO⟩, hRT, hb⟩ := hcut
            have hX := lm_next hb HX9.out
            obtain ⟨q0, q1, q2, q3, q4, q5⟩ := ses_box hR
            obtain ⟨v0, v1, v2, v3, v4, v5⟩ := ses_frz hX
            obtain ⟨x0, x1, x2, x3, x4, x5⟩ := ses_box hX
            have HNS := hid (SesB.copy (B := 0) hX hRO HLT.out (Nat.zero_le _))
            have hbo := HBK.out.trans (hb.mono HBK.out.size)
            have HNB := hid (show Below b9 W3 _ from (HB.out.trans (hbo.mono (Nat.le_of_lt HHL.out))).trans (low7 wc (.int .i64 r.step) (.string (S r.frm.1)) (.string (S r.frm.2)) (.slice ra r.to.length rk) (.string (S r.text)) (.bool r.large) (Nat.le_refl _)))
            have hc := HCO.out
            subst hc
            clear hR hRO hRT hb hP hX hbo z0 z1 z2 z3 z4 z5 l0 l1
            go_wp2
            go_roundw
            case rel => exact ⟨i + 1, by omega, by simp, (by rw [← HRE.out]; exact HNS), HNB⟩
            case measure => simp [intOf]; omega
    · obtain rfl : i = 4 := by omega
      have k1 : ¬ ((4 : Nat) : Int) < 4 := by omega
      obtain ⟨wr, hwr⟩ : ∃ wr, wr = wo := ⟨_, rfl⟩
      rw [← hwr] at HS HB ⊢
      clear hwr wo
      obtain ⟨sa, sk, hS, hO⟩ := HS.out
      have HM := hid (rd_may HF.out HF.out 3 (by omega))
      obtain ⟨s, hs⟩ : ∃ s, s = rdS f f 3 := ⟨_, rfl⟩
      have e33 : rdS f f (min 4 3) = s := hs.symm
      rw [e33] at hS hO
      rw [← hs] at HM
      have HSE := hid hs
      obtain ⟨z0, z1, z2, z3, z4, z5⟩ := ses_box hS
      have HOK := hid hO
      have HKR := hid (show wr.heap[b6]? = some (.cells #[.string (S f.1)] 9) from lm_low HB.out HK3.out (by omega))
      have HBF := hid (show Below w.heap.size w wr from HB3.out.trans (HB.out.mono hn.2.2))
      obtain ⟨nx, hnx⟩ : ∃ nx, nx = enL o := ⟨_, rfl⟩
      obtain ⟨r, hr⟩ : ∃ r, r = atS (if o = 0 then 1 else 5) := ⟨_, rfl⟩
      obtain ⟨co, hco⟩ : ∃ co : Int, co = if o = 0 then 250 else 221 := ⟨_, rfl⟩
      have HL := hid (show lineM s [f.1] nx = (r, co, []) by rw [HSE.out, hnx, hr, hco]; exact en_step f o ho2)
      have HLE := hid (show nx.length ≤ 140737488355328 by
        rw [hnx]
        obtain rfl | rfl : o = 0 ∨ o = 1 := by omega
        all_goals simp [enL])
      have HNX := hid hnx
      have HRE := hid hr
      have HCO := hid hco
      have o0 : (0 : Int) ≤ (o : Int) := by omega
      have o1 : (o : Int) < 2 := by omega
      have HLN := hid (fun (u : World) (hu : Below wr.heap.size wr u) => line_ok (W := wr) HM.out HL.out (AdrsM.any ((own_next HOK.out hu).row (by have := may_to HM.out; unfold maxLen; omega))) (own_roomy HOK.out) (txt_one (c := 1) (lm_next hu HKR.out)) HLE.out hu)
      have HC := hid (fun (u : World) (hu : Below wr.heap.size wr u) => show (u.cell? ⟨b9, 0, none⟩ = some (.int .i64 s.step) ∧ u.cell? ⟨b9, 1, none⟩ = some (.string (S s.frm.1)) ∧ u.cell? ⟨b9, 2, none⟩ = some (.string (S s.frm.2)) ∧ u.cell? ⟨b9, 3, none⟩ = some (.slice sa s.to.length sk) ∧ u.cell? ⟨b9, 4, none⟩ = some (.string (S s.text)) ∧ u.cell? ⟨b9, 5, none⟩ = some (.bool s.large)) from ⟨wcell_next z0 hu, wcell_next z1 hu, wcell_next z2 hu, wcell_next z3 hu, wcell_next z4 hu, wcell_next z5 hu⟩)
      clear hS hO hs e33 hnx hr hco h4 hn
      go_wp2_with fail
      go_cut [21, 22, 23, 24] (fun vp vc vl ve wx => LnB wr r co [] vp vc vl ve wx)
      case first =>
        refine wp_region_held_drew (S := fun u => u.cell? ⟨b9, 0, none⟩ = some (.int .i64 s.step) ∧ u.cell? ⟨b9, 1, none⟩ = some (.string (S s.frm.1)) ∧ u.cell? ⟨b9, 2, none⟩ = some (.string (S s.frm.2)) ∧ u.cell? ⟨b9, 3, none⟩ = some (.slice sa s.to.length sk) ∧ u.cell? ⟨b9, 4, none⟩ = some (.string (S s.text)) ∧ u.cell? ⟨b9, 5, none⟩ = some (.bool s.large)) (by kernel_rfl) ?_ (fun hHeld => ?_)
        · exact HC.out _ ((Below.refl _ _).drew)
        refine wpAnyH_take (i := 0) (v := ?v38) rfl (by kernel_rfl) (by kernel_rfl) (by kernel_rfl) (fun _ _ _ h => h) (Or.inl ⟨by rfl, ?hy38⟩) (by assumption) ?_
        case hy38 =>
          intro w hSw
          (try dsimp only at hSw)
          go_simp
          all_goals with_reducible rfl
        change wpAnyH _ _ _ _ _ _ _ (Act.put _ (some 121) _) _
        try simp only [Act.put, List.setIfInBounds_toArray, List.set_cons_zero, List.set_cons_succ]
        refine wpAnyH_take (i := 1) (v := ?v39) rfl (by kernel_rfl) (by kernel_rfl) (by kernel_rfl) (fun _ _ _ h => h) (Or.inl ⟨by rfl, ?hy39⟩) (by assumption) ?_
        case hy39 =>
          intro w hSw
          (try dsimp only at hSw)
          go_simp
          all_goals with_reducible rfl
        change wpAnyH _ _ _ _ _ _ _ (Act.put _ (some 122) _) _
        try simp only [Act.put, List.setIfInBounds_toArray, List.set_cons_zero, List.set_cons_succ]
        refine wpAnyH_take (i := 3) (v := ?v40) rfl (by kernel_rfl) (by kernel_rfl) (by kernel_rfl) (fun _ _ _ h => h) (Or.inl ⟨by rfl, ?hy40⟩) (by assumption) ?_
        case hy40 =>
          intro w hSw
          (try dsimp only at hSw)
          go_simp
          all_goals with_reducible rfl
        change wpAnyH _ _ _ _ _ _ _ (Act.put _ (some 124) _) _
        try simp only [Act.put, List.setIfInBounds_toArray, List.set_cons_zero, List.set_cons_succ]
        refine wpAnyH_ready (rs := [2, 4, 13]) (by kernel_rfl) (by simp) ?_
        refine AllReadyH.cons rfl (fun K hK => ?_) ?_
        · skip
          go_simp
          refine hK.out _ _ ?_ (fun hHeld => ?_)
          · refine HC.out _ ?_
            (repeat (first | with_reducible exact HB8.out | with_reducible exact Below.refl _ _ | with_reducible refine Below.drew ?_ | with_reducible refine Below.alloc ?_ (by first | exact Nat.le_refl _ | exact HZ8.out | (simp <;> omega) | simp) _ | with_reducible refine Below.setCell ?_ (by first | exact Nat.le_refl _ | exact HPL.out | (simp <;> omega) | simp) _))
          clear hK K
          try simp only [Act.put, List.setIfInBounds_toArray, List.set_cons_zero, List.set_cons_succ]
          have HEC := hid (en_cell (R := wr.heap.size) (show (_ : World).heap[wr.heap.size]? = _ from drew_at (lm_at0 _)) ho2 HNX.out)
          refine wpAnyH_switch (E := fun u : World => u.cell? ⟨wr.heap.size, o, none⟩ = some (.string (S nx))) hHeld HEC.out (fun hHeld1 => ?_)
          clear hHeld
          refine wpAnyH_ready (rs := [4, 13]) (by kernel_rfl) (by simp) ?_
          refine AllReadyH.cons rfl (fun K hK => ?_) ?_
          · skip
            go_simp
            refine (HPO.out _).mono ?_
            rintro e w9 ⟨rfl, rfl⟩
            go_wp2_with fail
            refine hK.out _ _ ?_ (fun hHeld => ?_)
            · refine ⟨HC.out _ ?_, ?_⟩
              · (repeat (first | with_reducible exact HB8.out | with_reducible exact Below.refl _ _ | with_reducible refine Below.drew ?_ | with_reducible refine Below.alloc ?_ (by first | exact Nat.le_refl _ | exact HZ8.out | (simp <;> omega) | simp) _ | with_reducible refine Below.setCell ?_ (by first | exact Nat.le_refl _ | exact HPL.out | (simp <;> omega) | simp) _))
              · first | exact HEC.out | exact wcell_next HEC.out ((Below.refl _ _).alloc (Nat.le_refl _) _) | exact hHeld1.2 | exact hHeld.2
            clear hK K
            try simp only [Act.put, List.setIfInBounds_toArray, List.set_cons_zero, List.set_cons_succ]
            refine wpAnyH_take (i := 5) (v := ?v41) rfl (by kernel_rfl) (by kernel_rfl) (by kernel_rfl) (fun _ _ _ h => h) (Or.inl ⟨by rfl, ?hy41⟩) (by assumption) ?_
            case hy41 =>
              intro w hSw
              (try dsimp only at hSw)
              go_simp
              all_goals with_reducible rfl
            change wpAnyH _ _ _ _ _ _ _ (Act.put _ (some 126) _) _
            try simp only [Act.put, List.setIfInBounds_toArray, List.set_cons_zero, List.set_cons_succ]
            refine wpAnyH_take (i := 6) (v := ?v42) rfl (by kernel_rfl) (by kernel_rfl) (by kernel_rfl) (fun _ _ _ h => h) (Or.inl ⟨by rfl, ?hy42⟩) (by assumption) ?_
            case hy42 =>
              intro w hSw
              (try dsimp only at hSw)
              go_simp
              all_goals with_reducible rfl
            change wpAnyH _ _ _ _ _ _ _ (Act.put _ (some 127) _) _
            try simp only [Act.put, List.setIfInBounds_toArray, List.set_cons_zero, List.set_cons_succ]
            refine wpAnyH_ready (rs := [7, 13]) (by kernel_rfl) (by simp) ?_
            refine AllReadyH.cons rfl (fun K hK => ?_) ?_
            · skip
              go_simp
              refine (HLN.out _ ?_).mono ?_
              · (repeat (first | with_reducible exact Below.refl _ _ | with_reducible refine Below.drew ?_ | with_reducible refine Below.alloc ?_ (by first | exact Nat.le_refl _ | (simp <;> omega) | simp) _ | with_reducible refine Below.setCell ?_ (by first | exact Nat.le_refl _ | (simp <;> omega) | simp) _))
              rintro e w8 ⟨a8, k8, al, cl, rfl, ho8, ht8, hb8, hB8, hz8⟩
              have HO8 := hid ho8
              have HT8 := hid ht8
              have HB8 := hid hB8
              have HZ8 := hid (hB8.size)
              have HU8 := hid hz8
              have hE8 := wcell_next (show (_ : World).cell? ⟨wr.heap.size, o, none⟩ = _ from (by first | exact hHeld1.2 | exact hHeld.2)) hb8
              have hnP : wr.heap.size ≠ w8.heap.size := by have h1 : wr.heap.size + 1 ≤ w8.heap.size := (by have h2 := hb8.size; simpa using h2); omega
              clear ho8 ht8 hb8 hB8 hz8
              go_wp2_with fail
              refine hK.out _ _ ?_ (fun hHeld => ?_)
              · refine ⟨HC.out _ ?_, ?_⟩
                · (repeat (first | with_reducible exact HB8.out | with_reducible exact Below.refl _ _ | with_reducible refine Below.drew ?_ | with_reducible refine Below.alloc ?_ (by first | exact Nat.le_refl _ | exact HZ8.out | (simp <;> omega) | simp) _ | with_reducible refine Below.setCell ?_ (by first | exact Nat.le_refl _ | exact HPL.out | (simp <;> omega) | simp) _))
                · exact hE8
              clear hK K
              try simp only [Act.put, List.setIfInBounds_toArray, List.set_cons_zero, List.set_cons_succ]
              refine wpAnyH_take (i := 8) (v := ?v43) rfl (by kernel_rfl) (by kernel_rfl) (by kernel_rfl) (fun _ _ _ h => h) (Or.inl ⟨by rfl, ?hy43⟩) (by assumption) ?_
              case hy43 =>
                intro w hSw
                (try dsimp only at hSw)
                go_simp
                all_goals with_reducible rfl
              change wpAnyH _ _ _ _ _ _ _ (Act.put _ (some 120) _) _
              try simp only [Act.put, List.setIfInBounds_toArray, List.set_cons_zero, List.set_cons_succ]
              refine wpAnyH_take (i := 9) (v := ?v44) rfl (by kernel_rfl) (by kernel_rfl) (by kernel_rfl) (fun _ _ _ h => h) (Or.inl ⟨by rfl, ?hy44⟩) (by assumption) ?_
              case hy44 =>
                intro w hSw
                (try dsimp only at hSw)
                go_simp
                all_goals with_reducible rfl
              change wpAnyH _ _ _ _ _ _ _ (Act.put _ (some 129) _) _
              try simp only [Act.put, List.setIfInBounds_toArray, List.set_cons_zero, List.set_cons_succ]
              refine wpAnyH_take (i := 10) (v := ?v45) rfl (by kernel_rfl) (by kernel_rfl) (by kernel_rfl) (fun _ _ _ h => h) (Or.inl ⟨by rfl, ?hy45⟩) (by assumption) ?_
              case hy45 =>
                intro w hSw
                (try dsimp only at hSw)
                go_simp
                all_goals with_reducible rfl
              change wpAnyH _ _ _ _ _ _ _ (Act.put _ (some 130) _) _
              try simp only [Act.put, List.setIfInBounds_toArray, List.set_cons_zero, List.set_cons_succ]
              refine wpAnyH_take (i := 11) (v := ?v46) rfl (by kernel_rfl) (by kernel_rfl) (by kernel_rfl) (fun _ _ _ h => h) (Or.inl ⟨by rfl, ?hy46⟩) (by assumption) ?_
              case hy46 =>
                intro w hSw
                (try dsimp only at hSw)
                go_simp
                all_goals with_reducible rfl
              change wpAnyH _ _ _ _ _ _ _ (Act.put _ (some 131) _) _
              try simp only [Act.put, List.setIfInBounds_toArray, List.set_cons_zero, List.set_cons_succ]
              refine wpAnyH_take (i := 12) (v := ?v47) rfl (by kernel_rfl) (by kernel_rfl) (by kernel_rfl) (fun _ _ _ h => h) (Or.inl ⟨by rfl, ?hy47⟩) (by assumption) ?_
              case hy47 =>
                intro w hSw
                (try dsimp only at hSw)
                go_simp
                all_goals with_reducible rfl
              change wpAnyH _ _ _ _ _ _ _ (Act.put _ (some 132) _) _
              try simp only [Act.put, List.setIfInBounds_toArray, List.set_cons_zero, List.set_cons_succ]
              refine wpAnyH_ready (rs := [13]) (by kernel_rfl) (by simp) ?_
              refine AllReadyH.cons rfl (fun K hK => ?_) AllReadyH.nil
              go_simp
              refine hK.out _ _ ?_ (fun hHeld => ?_)
              · refine ⟨HC.out _ ?_, ?_⟩
                · (repeat (first | with_reducible exact HB8.out | with_reducible exact Below.refl _ _ | with_reducible refine Below.drew ?_ | with_reducible refine Below.alloc ?_ (by first | exact Nat.le_refl _ | exact HZ8.out | (simp <;> omega) | simp) _ | with_reducible refine Below.setCell ?_ (by first | exact Nat.le_refl _ | exact HPL.out | (simp <;> omega) | simp) _))
                · first | exact wcell_next hE8 ((Below.refl _ _).alloc (Nat.le_refl _) _) | exact wcell_next HEC.out ((Below.refl _ _).alloc (Nat.le_refl _) _)
              clear hK K
              try simp only [Act.put, List.setIfInBounds_toArray, List.set_cons_zero, List.set_cons_succ]
              have HEE := hid (LnB.new (c := co) HO8.out HT8.out HB8.out HU8.out)
              have HPL := HZ8
              refine wpAnyH_ready (rs := [14]) (by kernel_rfl) (by simp) ?_
              refine AllReadyH.cons rfl (fun K hK => ?_) AllReadyH.nil
              go_simp
              refine hK.out _ _ ?_ (fun hHeld => ?_)
              · refine ⟨HC.out _ ?_, ?_⟩
                · (repeat (first | with_reducible exact HB8.out | with_reducible exact Below.refl _ _ | with_reducible refine Below.drew ?_ | with_reducible refine Below.alloc ?_ (by first | exact Nat.le_refl _ | exact HZ8.out | (simp <;> omega) | simp) _ | with_reducible refine Below.setCell ?_ (by first | exact Nat.le_refl _ | exact HPL.out | (simp <;> omega) | simp) _))
                · (repeat (first | with_reducible exact hE8 | with_reducible refine lm_far ?_ hnP | refine wcell_next hE8 ((Below.refl _ _).alloc (Nat.le_refl _) _)))
              clear hK K
              try simp only [Act.put, List.setIfInBounds_toArray, List.set_cons_zero, List.set_cons_succ]
              refine wpAnyH_take (i := 15) (v := ?v48) rfl (by kernel_rfl) (by kernel_rfl) (by kernel_rfl) (fun _ _ _ h => h) (Or.inl ⟨by rfl, ?hy48⟩) (by assumption) ?_
              case hy48 =>
                intro w hSw
                (try dsimp only at hSw)
                go_simp
                all_goals with_reducible rfl
              change wpAnyH _ _ _ _ _ _ _ (Act.put _ (some 22) _) _
              try simp only [Act.put, List.setIfInBounds_toArray, List.set_cons_zero, List.set_cons_succ]
              refine wpAnyH_take (i := 16) (v := ?v49) rfl (by kernel_rfl) (by kernel_rfl) (by kernel_rfl) (fun _ _ _ h => h) (Or.inl ⟨by rfl, ?hy49⟩) (by assumption) ?_
              case hy49 =>
                intro w hSw
                (try dsimp only at hSw)
                go_simp
                all_goals with_reducible rfl
              change wpAnyH _ _ _ _ _ _ _ (Act.put _ (some 23) _) _
              try simp only [Act.put, List.setIfInBounds_toArray, List.set_cons_zero, List.set_cons_succ]
              refine wpAnyH_take (i := 17) (v := ?v50) rfl (by kernel_rfl) (by kernel_rfl) (by kernel_rfl) (fun _ _ _ h => h) (Or.inl ⟨by rfl, ?hy50⟩) (by assumption) ?_
              case hy50 =>
                intro w hSw
                (try dsimp only at hSw)
                go_simp
                all_goals with_reducible rfl
              change wpAnyH _ _ _ _ _ _ _ (Act.put _ (some 24) _) _
              try simp only [Act.put, List.setIfInBounds_toArray, List.set_cons_zero, List.set_cons_succ]
              refine wpAnyH_done (by kernel_rfl) ?_ _
              have HE := HEE
              go_wp2_with fail
              go_meet
              exact HE.out
            refine AllReadyH.cons rfl (fun K hK => ?_) AllReadyH.nil
            go_simp
            refine hK.out _ _ ?_ (fun hHeld => ?_)
            · refine ⟨HC.out _ ?_, ?_⟩
              · (repeat (first | with_reducible exact HB8.out | with_reducible exact Below.refl _ _ | with_reducible refine Below.drew ?_ | with_reducible refine Below.alloc ?_ (by first | exact Nat.le_refl _ | exact HZ8.out | (simp <;> omega) | simp) _ | with_reducible refine Below.setCell ?_ (by first | exact Nat.le_refl _ | exact HPL.out | (simp <;> omega) | simp) _))
              · first | exact wcell_next hE8 ((Below.refl _ _).alloc (Nat.le_refl _) _) | exact wcell_next HEC.out ((Below.refl _ _).alloc (Nat.le_refl _) _)
            clear hK K
            try simp only [Act.put, List.setIfInBounds_toArray, List.set_cons_zero, List.set_cons_succ]
            refine wpAnyH_ready (rs := [7]) (by kernel_rfl) (by simp) ?_
            refine AllReadyH.cons rfl (fun K hK => ?_) AllReadyH.nil
            go_simp
            refine (HLN.out _ ?_).mono ?_
            · (repeat (first | with_reducible exact Below.refl _ _ | with_reducible refine Below.drew ?_ | with_reducible refine Below.alloc ?_ (by first | exact Nat.le_refl _ | (simp <;> omega) | simp) _ | with_reducible refine Below.setCell ?_ (by first | exact Nat.le_refl _ | (simp <;> omega) | simp) _))
            rintro e w8 ⟨a8, k8, al, cl, rfl, ho8, ht8, hb8, hB8, hz8⟩
            have HO8 := hid ho8
            have HT8 := hid ht8
            have HB8 := hid hB8
            have HZ8 := hid (hB8.size)
            have HU8 := hid hz8
            have HK8 : Hid (w8.heap[wr.heap.size + 1]? = some (.cells #[.int .i64 0, .string ⟨#[]⟩, .string ⟨#[]⟩, .slice none 0 0, .string ⟨#[]⟩, .bool false] 26)) := hid (lm_next hb8 (drew_at (lm_at1 _ _)))
            have hk8 := HK8.out
            obtain ⟨g0, g1, g2, g3, g4, g5⟩ := ses_frz hk8
            obtain ⟨x0, x1, x2, x3, x4, x5⟩ := ses_box hk8
            clear hk8
            have HPL := hid (show wr.heap.size ≤ wr.heap.size + 1 by omega)
            have HEE := hid (LnB.old (c := co) HO8.out HT8.out HB8.out HU8.out HPL.out (by first | (simp; done) | (simp; omega)) HK8.out)
            have hE8 := wcell_next (show (_ : World).cell? ⟨wr.heap.size, o, none⟩ = _ from (by first | exact hHeld1.2 | exact hHeld.2)) hb8
            have hnP : wr.heap.size ≠ wr.heap.size + 1 := by omega
            clear ho8 ht8 hb8 hB8 hz8
            go_wp2_with fail
            refine hK.out _ _ ?_ (fun hHeld => ?_)
            · refine ⟨HC.out _ ?_, ?_⟩
              · (repeat (first | with_reducible exact HB8.out | with_reducible exact Below.refl _ _ | with_reducible refine Below.drew ?_ | with_reducible refine Below.alloc ?_ (by first | exact Nat.le_refl _ | exact HZ8.out | (simp <;> omega) | simp) _ | with_reducible refine Below.setCell ?_ (by first | exact Nat.le_refl _ | exact HPL.out | (simp <;> omega) | simp) _))
              · exact hE8
            clear hK K
            try simp only [Act.put, List.setIfInBounds_toArray, List.set_cons_zero, List.set_cons_succ]
            refine wpAnyH_take (i := 8) (v := ?v51) rfl (by kernel_rfl) (by kernel_rfl) (by kernel_rfl) (fun _ _ _ h => h) (Or.inl ⟨by rfl, ?hy51⟩) (by assumption) ?_
            case hy51 =>
              intro w hSw
              (try dsimp only at hSw)
              go_simp
              all_goals with_reducible rfl
            change wpAnyH _ _ _ _ _ _ _ (Act.put _ (some 120) _) _
            try simp only [Act.put, List.setIfInBounds_toArray, List.set_cons_zero, List.set_cons_succ]
            refine wpAnyH_take (i := 9) (v := ?v52) rfl (by kernel_rfl) (by kernel_rfl) (by kernel_rfl) (fun _ _ _ h => h) (Or.inl ⟨by rfl, ?hy52⟩) (by assumption) ?_
            case hy52 =>
              intro w hSw
              (try dsimp only at hSw)
              go_simp
              all_goals with_reducible rfl
            change wpAnyH _ _ _ _ _ _ _ (Act.put _ (some 129) _) _
            try simp only [Act.put, List.setIfInBounds_toArray, List.set_cons_zero, List.set_cons_succ]
            refine wpAnyH_take (i := 10) (v := ?v53) rfl (by kernel_rfl) (by kernel_rfl) (by kernel_rfl) (fun _ _ _ h => h) (Or.inl ⟨by rfl, ?hy53⟩) (by assumption) ?_
            case hy53 =>
              intro w hSw
              (try dsimp only at hSw)
              go_simp
              all_goals with_reducible rfl
            change wpAnyH _ _ _ _ _ _ _ (Act.put _ (some 130) _) _
            try simp only [Act.put, List.setIfInBounds_toArray, List.set_cons_zero, List.set_cons_succ]
            refine wpAnyH_take (i := 11) (v := ?v54) rfl (by kernel_rfl) (by kernel_rfl) (by kernel_rfl) (fun _ _ _ h => h) (Or.inl ⟨by rfl, ?hy54⟩) (by assumption) ?_
            case hy54 =>
              intro w hSw
              (try dsimp only at hSw)
              go_simp
              all_goals with_reducible rfl
            change wpAnyH _ _ _ _ _ _ _ (Act.put _ (some 131) _) _
            try simp only [Act.put, List.setIfInBounds_toArray, List.set_cons_zero, List.set_cons_succ]
            refine wpAnyH_take (i := 12) (v := ?v55) rfl (by kernel_rfl) (by kernel_rfl) (by kernel_rfl) (fun _ _ _ h => h) (Or.inl ⟨by rfl, ?hy55⟩) (by assumption) ?_
            case hy55 =>
              intro w hSw
              (try dsimp only at hSw)
              go_simp
              all_goals with_reducible rfl
            change wpAnyH _ _ _ _ _ _ _ (Act.put _ (some 132) _) _
            try simp only [Act.put, List.setIfInBounds_toArray, List.set_cons_zero, List.set_cons_succ]
            refine wpAnyH_ready (rs := [14]) (by kernel_rfl) (by simp) ?_
            refine AllReadyH.cons rfl (fun K hK => ?_) AllReadyH.nil
            go_simp
            refine hK.out _ _ ?_ (fun hHeld => ?_)
            · refine ⟨HC.out _ ?_, ?_⟩
              · (repeat (first | with_reducible exact HB8.out | with_reducible exact Below.refl _ _ | with_reducible refine Below.drew ?_ | with_reducible refine Below.alloc ?_ (by first | exact Nat.le_refl _ | exact HZ8.out | (simp <;> omega) | simp) _ | with_reducible refine Below.setCell ?_ (by first | exact Nat.le_refl _ | exact HPL.out | (simp <;> omega) | simp) _))
              · (repeat (first | with_reducible exact hE8 | with_reducible refine lm_far ?_ hnP))
            clear hK K
            try simp only [Act.put, List.setIfInBounds_toArray, List.set_cons_zero, List.set_cons_succ]
            refine wpAnyH_take (i := 15) (v := ?v56) rfl (by kernel_rfl) (by kernel_rfl) (by kernel_rfl) (fun _ _ _ h => h) (Or.inl ⟨by rfl, ?hy56⟩) (by assumption) ?_
            case hy56 =>
              intro w hSw
              (try dsimp only at hSw)
              go_simp
              all_goals with_reducible rfl
            change wpAnyH _ _ _ _ _ _ _ (Act.put _ (some 22) _) _
            try simp only [Act.put, List.setIfInBounds_toArray, List.set_cons_zero, List.set_cons_succ]
            refine wpAnyH_take (i := 16) (v := ?v57) rfl (by kernel_rfl) (by kernel_rfl) (by kernel_rfl) (fun _ _ _ h => h) (Or.inl ⟨by rfl, ?hy57⟩) (by assumption) ?_
            case hy57 =>
              intro w hSw
              (try dsimp only at hSw)
              go_simp
              all_goals with_reducible rfl
            change wpAnyH _ _ _ _ _ _ _ (Act.put _ (some 23) _) _
            try simp only [Act.put, List.setIfInBounds_toArray, List.set_cons_zero, List.set_cons_succ]
            refine wpAnyH_take (i := 17) (v := ?v58) rfl (by kernel_rfl) (by kernel_rfl) (by kernel_rfl) (fun _ _ _ h => h) (Or.inl ⟨by rfl, ?hy58⟩) (by assumption) ?_
            case hy58 =>
              intro w hSw
              (try dsimp only at hSw)
              go_simp
              all_goals with_reducible rfl
            change wpAnyH _ _ _ _ _ _ _ (Act.put _ (some 24) _) _
            try simp only [Act.put, List.setIfInBounds_toArray, List.set_cons_zero, List.set_cons_succ]
            refine wpAnyH_done (by kernel_rfl) ?_ _
            have HE := HEE
            go_wp2_with fail
            go_meet
            exact HE.out
          refine AllReadyH.cons rfl (fun K hK => ?_) AllReadyH.nil
          go_simp
          refine hK.out _ _ ?_ (fun hHeld => ?_)
          · refine ⟨HC.out _ ?_, ?_⟩
            · (repeat (first | with_reducible exact HB8.out | with_reducible exact Below.refl _ _ | with_reducible refine Below.drew ?_ | with_reducible refine Below.alloc ?_ (by first | exact Nat.le_refl _ | exact HZ8.out | (simp <;> omega) | simp) _ | with_reducible refine Below.setCell ?_ (by first | exact Nat.le_refl _ | exact HPL.out | (simp <;> omega) | simp) _))
            · first | exact wcell_next hE8 ((Below.refl _ _).alloc (Nat.le_refl _) _) | exact wcell_next HEC.out ((Below.refl _ _).alloc (Nat.le_refl _) _)
          clear hK K
          try simp only [Act.put, List.setIfInBounds_toArray, List.set_cons_zero, List.set_cons_succ]
          refine wpAnyH_ready (rs := [4]) (by kernel_rfl) (by simp) ?_
          refine AllReadyH.cons rfl (fun K hK => ?_) AllReadyH.nil
          go_simp
          refine (HPO.out _).mono ?_
          rintro e w9 ⟨rfl, rfl⟩
          go_wp2_with fail
          refine hK.out _ _ ?_ (fun hHeld => ?_)
          · refine ⟨HC.out _ ?_, ?_⟩
            · (repeat (first | with_reducible exact HB8.out | with_reducible exact Below.refl _ _ | with_reducible refine Below.drew ?_ | with_reducible refine Below.alloc ?_ (by first | exact Nat.le_refl _ | exact HZ8.out | (simp <;> omega) | simp) _ | with_reducible refine Below.setCell ?_ (by first | exact Nat.le_refl _ | exact HPL.out | (simp <;> omega) | simp) _))
            · first | exact HEC.out | exact wcell_next HEC.out ((Below.refl _ _).alloc (Nat.le_refl _) _) | exact hHeld1.2 | exact hHeld.2
          clear hK K
          try simp only [Act.put, List.setIfInBounds_toArray, List.set_cons_zero, List.set_cons_succ]
          refine wpAnyH_take (i := 5) (v := ?v59) rfl (by kernel_rfl) (by kernel_rfl) (by kernel_rfl) (fun _ _ _ h => h) (Or.inl ⟨by rfl, ?hy59⟩) (by assumption) ?_
          case hy59 =>
            intro w hSw
            (try dsimp only at hSw)
            go_simp
            all_goals with_reducible rfl
          change wpAnyH _ _ _ _ _ _ _ (Act.put _ (some 126) _) _
          try simp only [Act.put, List.setIfInBounds_toArray, List.set_cons_zero, List.set_cons_succ]
          refine wpAnyH_take (i := 6) (v := ?v60) rfl (by kernel_rfl) (by kernel_rfl) (by kernel_rfl) (fun _ _ _ h => h) (Or.inl ⟨by rfl, ?hy60⟩) (by assumption) ?_
          case hy60 =>
            intro w hSw
            (try dsimp only at hSw)
            go_simp
            all_goals with_reducible rfl
          change wpAnyH _ _ _ _ _ _ _ (Act.put _ (some 127) _) _
          try simp only [Act.put, List.setIfInBounds_toArray, List.set_cons_zero, List.set_cons_succ]
          refine wpAnyH_ready (rs := [7]) (by kernel_rfl) (by simp) ?_
          refine AllReadyH.cons rfl (fun K hK => ?_) AllReadyH.nil
          go_simp
          refine (HLN.out _ ?_).mono ?_
          · (repeat (first | with_reducible exact Below.refl _ _ | with_reducible refine Below.drew ?_ | with_reducible refine Below.alloc ?_ (by first | exact Nat.le_refl _ | (simp <;> omega) | simp) _ | with_reducible refine Below.setCell ?_ (by first | exact Nat.le_refl _ | (simp <;> omega) | simp) _))
          rintro e w8 ⟨a8, k8, al, cl, rfl, ho8, ht8, hb8, hB8, hz8⟩
          have HO8 := hid ho8
          have HT8 := hid ht8
          have HB8 := hid hB8
          have HZ8 := hid (hB8.size)
          have HU8 := hid hz8
          have HK8 : Hid (w8.heap[wr.heap.size + 1]? = some (.cells #[.int .i64 0, .string ⟨#[]⟩, .string ⟨#[]⟩, .slice none 0 0, .string ⟨#[]⟩, .bool false] 26)) := hid (lm_next hb8 (drew_at (lm_at1 _ _)))
          have hk8 := HK8.out
          obtain ⟨g0, g1, g2, g3, g4, g5⟩ := ses_frz hk8
          obtain ⟨x0, x1, x2, x3, x4, x5⟩ := ses_box hk8
          clear hk8
          have HPL := hid (show wr.heap.size ≤ wr.heap.size + 1 by omega)
          have HEE := hid (LnB.old (c := co) HO8.out HT8.out HB8.out HU8.out HPL.out (by first | (simp; done) | (simp; omega)) HK8.out)
          have hE8 := wcell_next (show (_ : World).cell? ⟨wr.heap.size, o, none⟩ = _ from (by first | exact hHeld1.2 | exact hHeld.2)) hb8
          have hnP : wr.heap.size ≠ wr.heap.size + 1 := by omega
          clear ho8 ht8 hb8 hB8 hz8
          go_wp2_with fail
          refine hK.out _ _ ?_ (fun hHeld => ?_)
          · refine ⟨HC.out _ ?_, ?_⟩
            · (repeat (first | with_reducible exact HB8.out | with_reducible exact Below.refl _ _ | with_reducible refine Below.drew ?_ | with_reducible refine Below.alloc ?_ (by first | exact Nat.le_refl _ | exact HZ8.out | (simp <;> omega) | simp) _ | with_reducible refine Below.setCell ?_ (by first | exact Nat.le_refl _ | exact HPL.out | (simp <;> omega) | simp) _))
            · exact hE8
          clear hK K
          try simp only [Act.put, List.setIfInBounds_toArray, List.set_cons_zero, List.set_cons_succ]
          refine wpAnyH_take (i := 8) (v := ?v61) rfl (by kernel_rfl) (by kernel_rfl) (by kernel_rfl) (fun _ _ _ h => h) (Or.inl ⟨by rfl, ?hy61⟩) (by assumption) ?_
          case hy61 =>
            intro w hSw
            (try dsimp only at hSw)
            go_simp
            all_goals with_reducible rfl
          change wpAnyH _ _ _ _ _ _ _ (Act.put _ (some 120) _) _
          try simp only [Act.put, List.setIfInBounds_toArray, List.set_cons_zero, List.set_cons_succ]
          refine wpAnyH_take (i := 9) (v := ?v62) rfl (by kernel_rfl) (by kernel_rfl) (by kernel_rfl) (fun _ _ _ h => h) (Or.inl ⟨by rfl, ?hy62⟩) (by assumption) ?_
          case hy62 =>
            intro w hSw
            (try dsimp only at hSw)
            go_simp
            all_goals with_reducible rfl
          change wpAnyH _ _ _ _ _ _ _ (Act.put _ (some 129) _) _
          try simp only [Act.put, List.setIfInBounds_toArray, List.set_cons_zero, List.set_cons_succ]
          refine wpAnyH_take (i := 10) (v := ?v63) rfl (by kernel_rfl) (by kernel_rfl) (by kernel_rfl) (fun _ _ _ h => h) (Or.inl ⟨by rfl, ?hy63⟩) (by assumption) ?_
          case hy63 =>
            intro w hSw
            (try dsimp only at hSw)
            go_simp
            all_goals with_reducible rfl
          change wpAnyH _ _ _ _ _ _ _ (Act.put _ (some 130) _) _
          try simp only [Act.put, List.setIfInBounds_toArray, List.set_cons_zero, List.set_cons_succ]
          refine wpAnyH_take (i := 11) (v := ?v64) rfl (by kernel_rfl) (by kernel_rfl) (by kernel_rfl) (fun _ _ _ h => h) (Or.inl ⟨by rfl, ?hy64⟩) (by assumption) ?_
          case hy64 =>
            intro w hSw
            (try dsimp only at hSw)
            go_simp
            all_goals with_reducible rfl
          change wpAnyH _ _ _ _ _ _ _ (Act.put _ (some 131) _) _
          try simp only [Act.put, List.setIfInBounds_toArray, List.set_cons_zero, List.set_cons_succ]
          refine wpAnyH_take (i := 12) (v := ?v65) rfl (by kernel_rfl) (by kernel_rfl) (by kernel_rfl) (fun _ _ _ h => h) (Or.inl ⟨by rfl, ?hy65⟩) (by assumption) ?_
          case hy65 =>
            intro w hSw
            (try dsimp only at hSw)
            go_simp
            all_goals with_reducible rfl
          change wpAnyH _ _ _ _ _ _ _ (Act.put _ (some 132) _) _
          try simp only [Act.put, List.setIfInBounds_toArray, List.set_cons_zero, List.set_cons_succ]
          refine wpAnyH_ready (rs := [14]) (by kernel_rfl) (by simp) ?_
          refine AllReadyH.cons rfl (fun K hK => ?_) AllReadyH.nil
          go_simp
          refine hK.out _ _ ?_ (fun hHeld => ?_)
          · refine ⟨HC.out _ ?_, ?_⟩
            · (repeat (first | with_reducible exact HB8.out | with_reducible exact Below.refl _ _ | with_reducible refine Below.drew ?_ | with_reducible refine Below.alloc ?_ (by first | exact Nat.le_refl _ | exact HZ8.out | (simp <;> omega) | simp) _ | with_reducible refine Below.setCell ?_ (by first | exact Nat.le_refl _ | exact HPL.out | (simp <;> omega) | simp) _))
            · (repeat (first | with_reducible exact hE8 | with_reducible refine lm_far ?_ hnP))
          clear hK K
          try simp only [Act.put, List.setIfInBounds_toArray, List.set_cons_zero, List.set_cons_succ]
          refine wpAnyH_take (i := 15) (v := ?v66) rfl (by kernel_rfl) (by kernel_rfl) (by kernel_rfl) (fun _ _ _ h => h) (Or.inl ⟨by rfl, ?hy66⟩) (by assumption) ?_
          case hy66 =>
            intro w hSw
            (try dsimp only at hSw)
            go_simp
            all_goals with_reducible rfl
          change wpAnyH _ _ _ _ _ _ _ (Act.put _ (some 22) _) _
          try simp only [Act.put, List.setIfInBounds_toArray, List.set_cons_zero, List.set_cons_succ]
          refine wpAnyH_take (i := 16) (v := ?v67) rfl (by kernel_rfl) (by kernel_rfl) (by kernel_rfl) (fun _ _ _ h => h) (Or.inl ⟨by rfl, ?hy67⟩) (by assumption) ?_
          case hy67 =>
            intro w hSw
            (try dsimp only at hSw)
            go_simp
            all_goals with_reducible rfl
          change wpAnyH _ _ _ _ _ _ _ (Act.put _ (some 23) _) _
          try simp only [Act.put, List.setIfInBounds_toArray, List.set_cons_zero, List.set_cons_succ]
          refine wpAnyH_take (i := 17) (v := ?v68) rfl (by kernel_rfl) (by kernel_rfl) (by kernel_rfl) (fun _ _ _ h => h) (Or.inl ⟨by rfl, ?hy68⟩) (by assumption) ?_
          case hy68 =>
            intro w hSw
            (try dsimp only at hSw)
            go_simp
            all_goals with_reducible rfl
          change wpAnyH _ _ _ _ _ _ _ (Act.put _ (some 24) _) _
          try simp only [Act.put, List.setIfInBounds_toArray, List.set_cons_zero, List.set_cons_succ]
          refine wpAnyH_done (by kernel_rfl) ?_ _
          have HE := HEE
          go_wp2_with fail
          go_meet
          exact HE.out
        refine AllReadyH.cons rfl (fun K hK => ?_) ?_
        · skip
          go_simp
          refine (HPO.out _).mono ?_
          rintro e w9 ⟨rfl, rfl⟩
          go_wp2_with fail
          refine hK.out _ _ ?_ (fun hHeld => ?_)
          · refine HC.out _ ?_
            (repeat (first | with_reducible exact HB8.out | with_reducible exact Below.refl _ _ | with_reducible refine Below.drew ?_ | with_reducible refine Below.alloc ?_ (by first | exact Nat.le_refl _ | exact HZ8.out | (simp <;> omega) | simp) _ | with_reducible refine Below.setCell ?_ (by first | exact Nat.le_refl _ | exact HPL.out | (simp <;> omega) | simp) _))
          clear hK K
          try simp only [Act.put, List.setIfInBounds_toArray, List.set_cons_zero, List.set_cons_succ]
          refine wpAnyH_ready (rs := [2, 13]) (by kernel_rfl) (by simp) ?_
          refine AllReadyH.cons rfl (fun K hK => ?_) ?_
          · skip
            go_simp
            refine hK.out _ _ ?_ (fun hHeld => ?_)
            · refine HC.out _ ?_
              (repeat (first | with_reducible exact HB8.out | with_reducible exact Below.refl _ _ | with_reducible refine Below.drew ?_ | with_reducible refine Below.alloc ?_ (by first | exact Nat.le_refl _ | exact HZ8.out | (simp <;> omega) | simp) _ | with_reducible refine Below.setCell ?_ (by first | exact Nat.le_refl _ | exact HPL.out | (simp <;> omega) | simp) _))
            clear hK K
            try simp only [Act.put, List.setIfInBounds_toArray, List.set_cons_zero, List.set_cons_succ]
            have HEC := hid (en_cell (R := wr.heap.size) (show (_ : World).heap[wr.heap.size]? = _ from drew_at (lm_at0 _)) ho2 HNX.out)
            refine wpAnyH_switch (E := fun u : World => u.cell? ⟨wr.heap.size, o, none⟩ = some (.string (S nx))) hHeld HEC.out (fun hHeld1 => ?_)
            clear hHeld
            refine wpAnyH_take (i := 5) (v := ?v69) rfl (by kernel_rfl) (by kernel_rfl) (by kernel_rfl) (fun _ _ _ h => h) (Or.inl ⟨by rfl, ?hy69⟩) (by assumption) ?_
            case hy69 =>
              intro w hSw
              (try dsimp only at hSw)
              go_simp
              all_goals with_reducible rfl
            change wpAnyH _ _ _ _ _ _ _ (Act.put _ (some 126) _) _
            try simp only [Act.put, List.setIfInBounds_toArray, List.set_cons_zero, List.set_cons_succ]
            refine wpAnyH_take (i := 6) (v := ?v70) rfl (by kernel_rfl) (by kernel_rfl) (by kernel_rfl) (fun _ _ _ h => h) (Or.inl ⟨by rfl, ?hy70⟩) (by assumption) ?_
            case hy70 =>
              intro w hSw
              (try dsimp only at hSw)
              go_simp
              all_goals with_reducible rfl
            change wpAnyH _ _ _ _ _ _ _ (Act.put _ (some 127) _) _
            try simp only [Act.put, List.setIfInBounds_toArray, List.set_cons_zero, List.set_cons_succ]
            refine wpAnyH_ready (rs := [7, 13]) (by kernel_rfl) (by simp) ?_
            refine AllReadyH.cons rfl (fun K hK => ?_) ?_
            · skip
              go_simp
              refine (HLN.out _ ?_).mono ?_
              · (repeat (first | with_reducible exact Below.refl _ _ | with_reducible refine Below.drew ?_ | with_reducible refine Below.alloc ?_ (by first | exact Nat.le_refl _ | (simp <;> omega) | simp) _ | with_reducible refine Below.setCell ?_ (by first | exact Nat.le_refl _ | (simp <;> omega) | simp) _))
              rintro e w8 ⟨a8, k8, al, cl, rfl, ho8, ht8, hb8, hB8, hz8⟩
              have HO8 := hid ho8
              have HT8 := hid ht8
              have HB8 := hid hB8
              have HZ8 := hid (hB8.size)
              have HU8 := hid hz8
              have hE8 := wcell_next (show (_ : World).cell? ⟨wr.heap.size, o, none⟩ = _ from (by first | exact hHeld1.2 | exact hHeld.2)) hb8
              have hnP : wr.heap.size ≠ w8.heap.size := by have h1 : wr.heap.size + 1 ≤ w8.heap.size := (by have h2 := hb8.size; simpa using h2); omega
              clear ho8 ht8 hb8 hB8 hz8
              go_wp2_with fail
              refine hK.out _ _ ?_ (fun hHeld => ?_)
              · refine ⟨HC.out _ ?_, ?_⟩
                · (repeat (first | with_reducible exact HB8.out | with_reducible exact Below.refl _ _ | with_reducible refine Below.drew ?_ | with_reducible refine Below.alloc ?_ (by first | exact Nat.le_refl _ | exact HZ8.out | (simp <;> omega) | simp) _ | with_reducible refine Below.setCell ?_ (by first | exact Nat.le_refl _ | exact HPL.out | (simp <;> omega) | simp) _))
                · exact hE8
              clear hK K
              try simp only [Act.put, List.setIfInBounds_toArray, List.set_cons_zero, List.set_cons_succ]
              refine wpAnyH_take (i := 8) (v := ?v71) rfl (by kernel_rfl) (by kernel_rfl) (by kernel_rfl) (fun _ _ _ h => h) (Or.inl ⟨by rfl, ?hy71⟩) (by assumption) ?_
              case hy71 =>
                intro w hSw
                (try dsimp only at hSw)
                go_simp
                all_goals with_reducible rfl
              change wpAnyH _ _ _ _ _ _ _ (Act.put _ (some 120) _) _
              try simp only [Act.put, List.setIfInBounds_toArray, List.set_cons_zero, List.set_cons_succ]
              refine wpAnyH_take (i := 9) (v := ?v72) rfl (by kernel_rfl) (by kernel_rfl) (by kernel_rfl) (fun _ _ _ h => h) (Or.inl ⟨by rfl, ?hy72⟩) (by assumption) ?_
              case hy72 =>
                intro w hSw
                (try dsimp only at hSw)
                go_simp
                all_goals with_reducible rfl
              change wpAnyH _ _ _ _ _ _ _ (Act.put _ (some 129) _) _
              try simp only [Act.put, List.setIfInBounds_toArray, List.set_cons_zero, List.set_cons_succ]
              refine wpAnyH_take (i := 10) (v := ?v73) rfl (by kernel_rfl) (by kernel_rfl) (by kernel_rfl) (fun _ _ _ h => h) (Or.inl ⟨by rfl, ?hy73⟩) (by assumption) ?_
              case hy73 =>
                intro w hSw
                (try dsimp only at hSw)
                go_simp
                all_goals with_reducible rfl
              change wpAnyH _ _ _ _ _ _ _ (Act.put _ (some 130) _) _
              try simp only [Act.put, List.setIfInBounds_toArray, List.set_cons_zero, List.set_cons_succ]
              refine wpAnyH_take (i := 11) (v := ?v74) rfl (by kernel_rfl) (by kernel_rfl) (by kernel_rfl) (fun _ _ _ h => h) (Or.inl ⟨by rfl, ?hy74⟩) (by assumption) ?_
              case hy74 =>
                intro w hSw
                (try dsimp only at hSw)
                go_simp
                all_goals with_reducible rfl
              change wpAnyH _ _ _ _ _ _ _ (Act.put _ (some 131) _) _
              try simp only [Act.put, List.setIfInBounds_toArray, List.set_cons_zero, List.set_cons_succ]
              refine wpAnyH_take (i := 12) (v := ?v75) rfl (by kernel_rfl) (by kernel_rfl) (by kernel_rfl) (fun _ _ _ h => h) (Or.inl ⟨by rfl, ?hy75⟩) (by assumption) ?_
              case hy75 =>
                intro w hSw
                (try dsimp only at hSw)
                go_simp
                all_goals with_reducible rfl
              change wpAnyH _ _ _ _ _ _ _ (Act.put _ (some 132) _) _
              try simp only [Act.put, List.setIfInBounds_toArray, List.set_cons_zero, List.set_cons_succ]
              refine wpAnyH_ready (rs := [13]) (by kernel_rfl) (by simp) ?_
              refine AllReadyH.cons rfl (fun K hK => ?_) AllReadyH.nil
              go_simp
              refine hK.out _ _ ?_ (fun hHeld => ?_)
              · refine ⟨HC.out _ ?_, ?_⟩
                · (repeat (first | with_reducible exact HB8.out | with_reducible exact Below.refl _ _ | with_reducible refine Below.drew ?_ | with_reducible refine Below.alloc ?_ (by first | exact Nat.le_refl _ | exact HZ8.out | (simp <;> omega) | simp) _ | with_reducible refine Below.setCell ?_ (by first | exact Nat.le_refl _ | exact HPL.out | (simp <;> omega) | simp) _))
                · first | exact wcell_next hE8 ((Below.refl _ _).alloc (Nat.le_refl _) _) | exact wcell_next HEC.out ((Below.refl _ _).alloc (Nat.le_refl _) _)
              clear hK K
              try simp only [Act.put, List.setIfInBounds_toArray, List.set_cons_zero, List.set_cons_succ]
              have HEE := hid (LnB.new (c := co) HO8.out HT8.out HB8.out HU8.out)
              have HPL := HZ8
              refine wpAnyH_ready (rs := [14]) (by kernel_rfl) (by simp) ?_
              refine AllReadyH.cons rfl (fun K hK => ?_) AllReadyH.nil
              go_simp
              refine hK.out _ _ ?_ (fun hHeld => ?_)
              · refine ⟨HC.out _ ?_, ?_⟩
                · (repeat (first | with_reducible exact HB8.out | with_reducible exact Below.refl _ _ | with_reducible refine Below.drew ?_ | with_reducible refine Below.alloc ?_ (by first | exact Nat.le_refl _ | exact HZ8.out | (simp <;> omega) | simp) _ | with_reducible refine Below.setCell ?_ (by first | exact Nat.le_refl _ | exact HPL.out | (simp <;> omega) | simp) _))
                · (repeat (first | with_reducible exact hE8 | with_reducible refine lm_far ?_ hnP | refine wcell_next hE8 ((Below.refl _ _).alloc (Nat.le_refl _) _)))
              clear hK K
              try simp only [Act.put, List.setIfInBounds_toArray, List.set_cons_zero, List.set_cons_succ]
              refine wpAnyH_take (i := 15) (v := ?v76) rfl (by kernel_rfl) (by kernel_rfl) (by kernel_rfl) (fun _ _ _ h => h) (Or.inl ⟨by rfl, ?hy76⟩) (by assumption) ?_
              case hy76 =>
                intro w hSw
                (try dsimp only at hSw)
                go_simp
                all_goals with_reducible rfl
              change wpAnyH _ _ _ _ _ _ _ (Act.put _ (some 22) _) _
              try simp only [Act.put, List.setIfInBounds_toArray, List.set_cons_zero, List.set_cons_succ]
              refine wpAnyH_take (i := 16) (v := ?v77) rfl (by kernel_rfl) (by kernel_rfl) (by kernel_rfl) (fun _ _ _ h => h) (Or.inl ⟨by rfl, ?hy77⟩) (by assumption) ?_
              case hy77 =>
                intro w hSw
                (try dsimp only at hSw)
                go_simp
                all_goals with_reducible rfl
              change wpAnyH _ _ _ _ _ _ _ (Act.put _ (some 23) _) _
              try simp only [Act.put, List.setIfInBounds_toArray, List.set_cons_zero, List.set_cons_succ]
              refine wpAnyH_take (i := 17) (v := ?v78) rfl (by kernel_rfl) (by kernel_rfl) (by kernel_rfl) (fun _ _ _ h => h) (Or.inl ⟨by rfl, ?hy78⟩) (by assumption) ?_
              case hy78 =>
                intro w hSw
                (try dsimp only at hSw)
                go_simp
                all_goals with_reducible rfl
              change wpAnyH _ _ _ _ _ _ _ (Act.put _ (some 24) _) _
              try simp only [Act.put, List.setIfInBounds_toArray, List.set_cons_zero, List.set_cons_succ]
              refine wpAnyH_done (by kernel_rfl) ?_ _
              have HE := HEE
              go_wp2_with fail
              go_meet
              exact HE.out
            refine AllReadyH.cons rfl (fun K hK => ?_) AllReadyH.nil
            go_simp
            refine hK.out _ _ ?_ (fun hHeld => ?_)
            · refine ⟨HC.out _ ?_, ?_⟩
              · (repeat (first | with_reducible exact HB8.out | with_reducible exact Below.refl _ _ | with_reducible refine Below.drew ?_ | with_reducible refine Below.alloc ?_ (by first | exact Nat.le_refl _ | exact HZ8.out | (simp <;> omega) | simp) _ | with_reducible refine Below.setCell ?_ (by first | exact Nat.le_refl _ | exact HPL.out | (simp <;> omega) | simp) _))
              · first | exact wcell_next hE8 ((Below.refl _ _).alloc (Nat.le_refl _) _) | exact wcell_next HEC.out ((Below.refl _ _).alloc (Nat.le_refl _) _)
            clear hK K
            try simp only [Act.put, List.setIfInBounds_toArray, List.set_cons_zero, List.set_cons_succ]
            refine wpAnyH_ready (rs := [7]) (by kernel_rfl) (by simp) ?_
            refine AllReadyH.cons rfl (fun K hK => ?_) AllReadyH.nil
            go_simp
            refine (HLN.out _ ?_).mono ?_
            · (repeat (first | with_reducible exact Below.refl _ _ | with_reducible refine Below.drew ?_ | with_reducible refine Below.alloc ?_ (by first | exact Nat.le_refl _ | (simp <;> omega) | simp) _ | with_reducible refine Below.setCell ?_ (by first | exact Nat.le_refl _ | (simp <;> omega) | simp) _))
            rintro e w8 ⟨a8, k8, al, cl, rfl, ho8, ht8, hb8, hB8, hz8⟩
            have HO8 := hid ho8
            have HT8 := hid ht8
            have HB8 := hid hB8
            have HZ8 := hid (hB8.size)
            have HU8 := hid hz8
            have HK8 : Hid (w8.heap[wr.heap.size + 1]? = some (.cells #[.int .i64 0, .string ⟨#[]⟩, .string ⟨#[]⟩, .slice none 0 0, .string ⟨#[]⟩, .bool false] 26)) := hid (lm_next hb8 (drew_at (lm_at1 _ _)))
            have hk8 := HK8.out
            obtain ⟨g0, g1, g2, g3, g4, g5⟩ := ses_frz hk8
            obtain ⟨x0, x1, x2, x3, x4, x5⟩ := ses_box hk8
            clear hk8
            have HPL := hid (show wr.heap.size ≤ wr.heap.size + 1 by omega)
            have HEE := hid (LnB.old (c := co) HO8.out HT8.out HB8.out HU8.out HPL.out (by first | (simp; done) | (simp; omega)) HK8.out)
            have hE8 := wcell_next (show (_ : World).cell? ⟨wr.heap.size, o, none⟩ = _ from (by first | exact hHeld1.2 | exact hHeld.2)) hb8
            have hnP : wr.heap.size ≠ wr.heap.size + 1 := by omega
            clear ho8 ht8 hb8 hB8 hz8
            go_wp2_with fail
            refine hK.out _ _ ?_ (fun hHeld => ?_)
            · refine ⟨HC.out _ ?_, ?_⟩
              · (repeat (first | with_reducible exact HB8.out | with_reducible exact Below.refl _ _ | with_reducible refine Below.drew ?_ | with_reducible refine Below.alloc ?_ (by first | exact Nat.le_refl _ | exact HZ8.out | (simp <;> omega) | simp) _ | with_reducible refine Below.setCell ?_ (by first | exact Nat.le_refl _ | exact HPL.out | (simp <;> omega) | simp) _))
              · exact hE8
            clear hK K
            try simp only [Act.put, List.setIfInBounds_toArray, List.set_cons_zero, List.set_cons_succ]
            refine wpAnyH_take (i := 8) (v := ?v79) rfl (by kernel_rfl) (by kernel_rfl) (by kernel_rfl) (fun _ _ _ h => h) (Or.inl ⟨by rfl, ?hy79⟩) (by assumption) ?_
            case hy79 =>
              intro w hSw
              (try dsimp only at hSw)
              go_simp
              all_goals with_reducible rfl
            change wpAnyH _ _ _ _ _ _ _ (Act.put _ (some 120) _) _
            try simp only [Act.put, List.setIfInBounds_toArray, List.set_cons_zero, List.set_cons_succ]
            refine wpAnyH_take (i := 9) (v := ?v80) rfl (by kernel_rfl) (by kernel_rfl) (by kernel_rfl) (fun _ _ _ h => h) (Or.inl ⟨by rfl, ?hy80⟩) (by assumption) ?_
            case hy80 =>
              intro w hSw
              (try dsimp only at hSw)
              go_simp
              all_goals with_reducible rfl
            change wpAnyH _ _ _ _ _ _ _ (Act.put _ (some 129) _) _
            try simp only [Act.put, List.setIfInBounds_toArray, List.set_cons_zero, List.set_cons_succ]
            refine wpAnyH_take (i := 10) (v := ?v81) rfl (by kernel_rfl) (by kernel_rfl) (by kernel_rfl) (fun _ _ _ h => h) (Or.inl ⟨by rfl, ?hy81⟩) (by assumption) ?_
            case hy81 =>
              intro w hSw
              (try dsimp only at hSw)
              go_simp
              all_goals with_reducible rfl
            change wpAnyH _ _ _ _ _ _ _ (Act.put _ (some 130) _) _
            try simp only [Act.put, List.setIfInBounds_toArray, List.set_cons_zero, List.set_cons_succ]
            refine wpAnyH_take (i := 11) (v := ?v82) rfl (by kernel_rfl) (by kernel_rfl) (by kernel_rfl) (fun _ _ _ h => h) (Or.inl ⟨by rfl, ?hy82⟩) (by assumption) ?_
            case hy82 =>
              intro w hSw
              (try dsimp only at hSw)
              go_simp
              all_goals with_reducible rfl
            change wpAnyH _ _ _ _ _ _ _ (Act.put _ (some 131) _) _
            try simp only [Act.put, List.setIfInBounds_toArray, List.set_cons_zero, List.set_cons_succ]
            refine wpAnyH_take (i := 12) (v := ?v83) rfl (by kernel_rfl) (by kernel_rfl) (by kernel_rfl) (fun _ _ _ h => h) (Or.inl ⟨by rfl, ?hy83⟩) (by assumption) ?_
            case hy83 =>
              intro w hSw
              (try dsimp only at hSw)
              go_simp
              all_goals with_reducible rfl
            change wpAnyH _ _ _ _ _ _ _ (Act.put _ (some 132) _) _
            try simp only [Act.put, List.setIfInBounds_toArray, List.set_cons_zero, List.set_cons_succ]
            refine wpAnyH_ready (rs := [14]) (by kernel_rfl) (by simp) ?_
            refine AllReadyH.cons rfl (fun K hK => ?_) AllReadyH.nil
            go_simp
            refine hK.out _ _ ?_ (fun hHeld => ?_)
            · refine ⟨HC.out _ ?_, ?_⟩
              · (repeat (first | with_reducible exact HB8.out | with_reducible exact Below.refl _ _ | with_reducible refine Below.drew ?_ | with_reducible refine Below.alloc ?_ (by first | exact Nat.le_refl _ | exact HZ8.out | (simp <;> omega) | simp) _ | with_reducible refine Below.setCell ?_ (by first | exact Nat.le_refl _ | exact HPL.out | (simp <;> omega) | simp) _))
              · (repeat (first | with_reducible exact hE8 | with_reducible refine lm_far ?_ hnP))
            clear hK K
            try simp only [Act.put, List.setIfInBounds_toArray, List.set_cons_zero, List.set_cons_succ]
            refine wpAnyH_take (i := 15) (v := ?v84) rfl (by kernel_rfl) (by kernel_rfl) (by kernel_rfl) (fun _ _ _ h => h) (Or.inl ⟨by rfl, ?hy84⟩) (by assumption) ?_
            case hy84 =>
              intro w hSw
              (try dsimp only at hSw)
              go_simp
              all_goals with_reducible rfl
            change wpAnyH _ _ _ _ _ _ _ (Act.put _ (some 22) _) _
            try simp only [Act.put, List.setIfInBounds_toArray, List.set_cons_zero, List.set_cons_succ]
            refine wpAnyH_take (i := 16) (v := ?v85) rfl (by kernel_rfl) (by kernel_rfl) (by kernel_rfl) (fun _ _ _ h => h) (Or.inl ⟨by rfl, ?hy85⟩) (by assumption) ?_
            case hy85 =>
              intro w hSw
              (try dsimp only at hSw)
              go_simp
              all_goals with_reducible rfl
            change wpAnyH _ _ _ _ _ _ _ (Act.put _ (some 23) _) _
            try simp only [Act.put, List.setIfInBounds_toArray, List.set_cons_zero, List.set_cons_succ]
            refine wpAnyH_take (i := 17) (v := ?v86) rfl (by kernel_rfl) (by kernel_rfl) (by kernel_rfl) (fun _ _ _ h => h) (Or.inl ⟨by rfl, ?hy86⟩) (by assumption) ?_
            case hy86 =>
              intro w hSw
              (try dsimp only at hSw)
              go_simp
              all_goals with_reducible rfl
            change wpAnyH _ _ _ _ _ _ _ (Act.put _ (some 24) _) _
            try simp only [Act.put, List.setIfInBounds_toArray, List.set_cons_zero, List.set_cons_succ]
            refine wpAnyH_done (by kernel_rfl) ?_ _
            have HE := HEE
            go_wp2_with fail
            go_meet
            exact HE.out
          refine AllReadyH.cons rfl (fun K hK => ?_) AllReadyH.nil
          go_simp
          refine hK.out _ _ ?_ (fun hHeld => ?_)
          · refine HC.out _ ?_
            (repeat (first | with_reducible exact HB8.out | with_reducible exact Below.refl _ _ | with_reducible refine Below.drew ?_ | with_reducible refine Below.alloc ?_ (by first | exact Nat.le_refl _ | exact HZ8.out | (simp <;> omega) | simp) _ | with_reducible refine Below.setCell ?_ (by first | exact Nat.le_refl _ | exact HPL.out | (simp <;> omega) | simp) _))
          clear hK K
          try simp only [Act.put, List.setIfInBounds_toArray, List.set_cons_zero, List.set_cons_succ]
          refine wpAnyH_ready (rs := [2]) (by kernel_rfl) (by simp) ?_
          refine AllReadyH.cons rfl (fun K hK => ?_) AllReadyH.nil
          go_simp
          refine hK.out _ _ ?_ (fun hHeld => ?_)
          · refine HC.out _ ?_
            (repeat (first | with_reducible exact HB8.out | with_reducible exact Below.refl _ _ | with_reducible refine Below.drew ?_ | with_reducible refine Below.alloc ?_ (by first | exact Nat.le_refl _ | exact HZ8.out | (simp <;> omega) | simp) _ | with_reducible refine Below.setCell ?_ (by first | exact Nat.le_refl _ | exact HPL.out | (simp <;> omega) | simp) _))
          clear hK K
          try simp only [Act.put, List.setIfInBounds_toArray, List.set_cons_zero, List.set_cons_succ]
          have HEC := hid (en_cell (R := wr.heap.size + 1) (show (_ : World).heap[wr.heap.size + 1]? = _ from drew_at (lm_at1 (.cells #[.int .i64 0, .string ⟨#[]⟩, .string ⟨#[]⟩, .slice none 0 0, .string ⟨#[]⟩, .bool false] 26) _)) ho2 HNX.out)
          refine wpAnyH_switch (E := fun u : World => u.cell? ⟨wr.heap.size + 1, o, none⟩ = some (.string (S nx))) hHeld HEC.out (fun hHeld1 => ?_)
          clear hHeld
          refine wpAnyH_take (i := 5) (v := ?v87) rfl (by kernel_rfl) (by kernel_rfl) (by kernel_rfl) (fun _ _ _ h => h) (Or.inl ⟨by rfl, ?hy87⟩) (by assumption) ?_
          case hy87 =>
            intro w hSw
            (try dsimp only at hSw)
            go_simp
            all_goals with_reducible rfl
          change wpAnyH _ _ _ _ _ _ _ (Act.put _ (some 126) _) _
          try simp only [Act.put, List.setIfInBounds_toArray, List.set_cons_zero, List.set_cons_succ]
          refine wpAnyH_take (i := 6) (v := ?v88) rfl (by kernel_rfl) (by kernel_rfl) (by kernel_rfl) (fun _ _ _ h => h) (Or.inl ⟨by rfl, ?hy88⟩) (by assumption) ?_
          case hy88 =>
            intro w hSw
            (try dsimp only at hSw)
            go_simp
            all_goals with_reducible rfl
          change wpAnyH _ _ _ _ _ _ _ (Act.put _ (some 127) _) _
          try simp only [Act.put, List.setIfInBounds_toArray, List.set_cons_zero, List.set_cons_succ]
          refine wpAnyH_ready (rs := [7]) (by kernel_rfl) (by simp) ?_
          refine AllReadyH.cons rfl (fun K hK => ?_) AllReadyH.nil
          go_simp
          refine (HLN.out _ ?_).mono ?_
          · (repeat (first | with_reducible exact Below.refl _ _ | with_reducible refine Below.drew ?_ | with_reducible refine Below.alloc ?_ (by first | exact Nat.le_refl _ | (simp <;> omega) | simp) _ | with_reducible refine Below.setCell ?_ (by first | exact Nat.le_refl _ | (simp <;> omega) | simp) _))
          rintro e w8 ⟨a8, k8, al, cl, rfl, ho8, ht8, hb8, hB8, hz8⟩
          have HO8 := hid ho8
          have HT8 := hid ht8
          have HB8 := hid hB8
          have HZ8 := hid (hB8.size)
          have HU8 := hid hz8
          have HK8 : Hid (w8.heap[wr.heap.size]? = some (.cells #[.int .i64 0, .string ⟨#[]⟩, .string ⟨#[]⟩, .slice none 0 0, .string ⟨#[]⟩, .bool false] 26)) := hid (lm_next hb8 (drew_at (lm_up0 _ _)))
          have hk8 := HK8.out
          obtain ⟨g0, g1, g2, g3, g4, g5⟩ := ses_frz hk8
          obtain ⟨x0, x1, x2, x3, x4, x5⟩ := ses_box hk8
          clear hk8
          have HPL := hid (show wr.heap.size ≤ wr.heap.size by omega)
          have HEE := hid (LnB.old (c := co) HO8.out HT8.out HB8.out HU8.out HPL.out (by first | (simp; done) | (simp; omega)) HK8.out)
          have hE8 := wcell_next (show (_ : World).cell? ⟨wr.heap.size + 1, o, none⟩ = _ from (by first | exact hHeld1.2 | exact hHeld.2)) hb8
          have hnP : wr.heap.size + 1 ≠ wr.heap.size := by omega
          clear ho8 ht8 hb8 hB8 hz8
          go_wp2_with fail
          refine hK.out _ _ ?_ (fun hHeld => ?_)
          · refine ⟨HC.out _ ?_, ?_⟩
            · (repeat (first | with_reducible exact HB8.out | with_reducible exact Below.refl _ _ | with_reducible refine Below.drew ?_ | with_reducible refine Below.alloc ?_ (by first | exact Nat.le_refl _ | exact HZ8.out | (simp <;> omega) | simp) _ | with_reducible refine Below.setCell ?_ (by first | exact Nat.le_refl _ | exact HPL.out | (simp <;> omega) | simp) _))
            · exact hE8
          clear hK K
          try simp only [Act.put, List.setIfInBounds_toArray, List.set_cons_zero, List.set_cons_succ]
          refine wpAnyH_take (i := 8) (v := ?v89) rfl (by kernel_rfl) (by kernel_rfl) (by kernel_rfl) (fun _ _ _ h => h) (Or.inl ⟨by rfl, ?hy89⟩) (by assumption) ?_
          case hy89 =>
            intro w hSw
            (try dsimp only at hSw)
            go_simp
            all_goals with_reducible rfl
          change wpAnyH _ _ _ _ _ _ _ (Act.put _ (some 120) _) _
          try simp only [Act.put, List.setIfInBounds_toArray, List.set_cons_zero, List.set_cons_succ]
          refine wpAnyH_take (i := 9) (v := ?v90) rfl (by kernel_rfl) (by kernel_rfl) (by kernel_rfl) (fun _ _ _ h => h) (Or.inl ⟨by rfl, ?hy90⟩) (by assumption) ?_
          case hy90 =>
            intro w hSw
            (try dsimp only at hSw)
            go_simp
            all_goals with_reducible rfl
          change wpAnyH _ _ _ _ _ _ _ (Act.put _ (some 129) _) _
          try simp only [Act.put, List.setIfInBounds_toArray, List.set_cons_zero, List.set_cons_succ]
          refine wpAnyH_take (i := 10) (v := ?v91) rfl (by kernel_rfl) (by kernel_rfl) (by kernel_rfl) (fun _ _ _ h => h) (Or.inl ⟨by rfl, ?hy91⟩) (by assumption) ?_
          case hy91 =>
            intro w hSw
            (try dsimp only at hSw)
            go_simp
            all_goals with_reducible rfl
          change wpAnyH _ _ _ _ _ _ _ (Act.put _ (some 130) _) _
          try simp only [Act.put, List.setIfInBounds_toArray, List.set_cons_zero, List.set_cons_succ]
          refine wpAnyH_take (i := 11) (v := ?v92) rfl (by kernel_rfl) (by kernel_rfl) (by kernel_rfl) (fun _ _ _ h => h) (Or.inl ⟨by rfl, ?hy92⟩) (by assumption) ?_
          case hy92 =>
            intro w hSw
            (try dsimp only at hSw)
            go_simp
            all_goals with_reducible rfl
          change wpAnyH _ _ _ _ _ _ _ (Act.put _ (some 131) _) _
          try simp only [Act.put, List.setIfInBounds_toArray, List.set_cons_zero, List.set_cons_succ]
          refine wpAnyH_take (i := 12) (v := ?v93) rfl (by kernel_rfl) (by kernel_rfl) (by kernel_rfl) (fun _ _ _ h => h) (Or.inl ⟨by rfl, ?hy93⟩) (by assumption) ?_
          case hy93 =>
            intro w hSw
            (try dsimp only at hSw)
            go_simp
            all_goals with_reducible rfl
          change wpAnyH _ _ _ _ _ _ _ (Act.put _ (some 132) _) _
          try simp only [Act.put, List.setIfInBounds_toArray, List.set_cons_zero, List.set_cons_succ]
          refine wpAnyH_ready (rs := [14]) (by kernel_rfl) (by simp) ?_
          refine AllReadyH.cons rfl (fun K hK => ?_) AllReadyH.nil
          go_simp
          refine hK.out _ _ ?_ (fun hHeld => ?_)
          · refine ⟨HC.out _ ?_, ?_⟩
            · (repeat (first | with_reducible exact HB8.out | with_reducible exact Below.refl _ _ | with_reducible refine Below.drew ?_ | with_reducible refine Below.alloc ?_ (by first | exact Nat.le_refl _ | exact HZ8.out | (simp <;> omega) | simp) _ | with_reducible refine Below.setCell ?_ (by first | exact Nat.le_refl _ | exact HPL.out | (simp <;> omega) | simp) _))
            · (repeat (first | with_reducible exact hE8 | with_reducible refine lm_far ?_ hnP))
          clear hK K
          try simp only [Act.put, List.setIfInBounds_toArray, List.set_cons_zero, List.set_cons_succ]
          refine wpAnyH_take (i := 15) (v := ?v94) rfl (by kernel_rfl) (by kernel_rfl) (by kernel_rfl) (fun _ _ _ h => h) (Or.inl ⟨by rfl, ?hy94⟩) (by assumption) ?_
          case hy94 =>
            intro w hSw
            (try dsimp only at hSw)
            go_simp
            all_goals with_reducible rfl
          change wpAnyH _ _ _ _ _ _ _ (Act.put _ (some 22) _) _
          try simp only [Act.put, List.setIfInBounds_toArray, List.set_cons_zero, List.set_cons_succ]
          refine wpAnyH_take (i := 16) (v := ?v95) rfl (by kernel_rfl) (by kernel_rfl) (by kernel_rfl) (fun _ _ _ h => h) (Or.inl ⟨by rfl, ?hy95⟩) (by assumption) ?_
          case hy95 =>
            intro w hSw
            (try dsimp only at hSw)
            go_simp
            all_goals with_reducible rfl
          change wpAnyH _ _ _ _ _ _ _ (Act.put _ (some 23) _) _
          try simp only [Act.put, List.setIfInBounds_toArray, List.set_cons_zero, List.set_cons_succ]
          refine wpAnyH_take (i := 17) (v := ?v96) rfl (by kernel_rfl) (by kernel_rfl) (by kernel_rfl) (fun _ _ _ h => h) (Or.inl ⟨by rfl, ?hy96⟩) (by assumption) ?_
          case hy96 =>
            intro w hSw
            (try dsimp only at hSw)
            go_simp
            all_goals with_reducible rfl
          change wpAnyH _ _ _ _ _ _ _ (Act.put _ (some 24) _) _
          try simp only [Act.put, List.setIfInBounds_toArray, List.set_cons_zero, List.set_cons_succ]
          refine wpAnyH_done (by kernel_rfl) ?_ _
          have HE := HEE
          go_wp2_with fail
          go_meet
          exact HE.out
        refine AllReadyH.cons rfl (fun K hK => ?_) AllReadyH.nil
        go_simp
        refine hK.out _ _ ?_ (fun hHeld => ?_)
        · refine HC.out _ ?_
          (repeat (first | with_reducible exact HB8.out | with_reducible exact Below.refl _ _ | with_reducible refine Below.drew ?_ | with_reducible refine Below.alloc ?_ (by first | exact Nat.le_refl _ | exact HZ8.out | (simp <;> omega) | simp) _ | with_reducible refine Below.setCell ?_ (by first | exact Nat.le_refl _ | exact HPL.out | (simp <;> omega) | simp) _))
        clear hK K
        try simp only [Act.put, List.setIfInBounds_toArray, List.set_cons_zero, List.set_cons_succ]
        refine wpAnyH_ready (rs := [2, 4]) (by kernel_rfl) (by simp) ?_
        refine AllReadyH.cons rfl (fun K hK => ?_) ?_
        · skip
          go_simp
          refine hK.out _ _ ?_ (fun hHeld => ?_)
          · refine HC.out _ ?_
            (repeat (first | with_reducible exact HB8.out | with_reducible exact Below.refl _ _ | with_reducible refine Below.drew ?_ | with_reducible refine Below.alloc ?_ (by first | exact Nat.le_refl _ | exact HZ8.out | (simp <;> omega) | simp) _ | with_reducible refine Below.setCell ?_ (by first | exact Nat.le_refl _ | exact HPL.out | (simp <;> omega) | simp) _))
          clear hK K
          try simp only [Act.put, List.setIfInBounds_toArray, List.set_cons_zero, List.set_cons_succ]
          have HEC := hid (en_cell (R := wr.heap.size + 1) (show (_ : World).heap[wr.heap.size + 1]? = _ from drew_at (lm_at1 (.cells #[.int .i64 0, .string ⟨#[]⟩, .string ⟨#[]⟩, .slice none 0 0, .string ⟨#[]⟩, .bool false] 26) _)) ho2 HNX.out)
          refine wpAnyH_switch (E := fun u : World => u.cell? ⟨wr.heap.size + 1, o, none⟩ = some (.string (S nx))) hHeld HEC.out (fun hHeld1 => ?_)
          clear hHeld
          refine wpAnyH_ready (rs := [4]) (by kernel_rfl) (by simp) ?_
          refine AllReadyH.cons rfl (fun K hK => ?_) AllReadyH.nil
          go_simp
          refine (HPO.out _).mono ?_
          rintro e w9 ⟨rfl, rfl⟩
          go_wp2_with fail
          refine hK.out _ _ ?_ (fun hHeld => ?_)
          · refine ⟨HC.out _ ?_, ?_⟩
            · (repeat (first | with_reducible exact HB8.out | with_reducible exact Below.refl _ _ | with_reducible refine Below.drew ?_ | with_reducible refine Below.alloc ?_ (by first | exact Nat.le_refl _ | exact HZ8.out | (simp <;> omega) | simp) _ | with_reducible refine Below.setCell ?_ (by first | exact Nat.le_refl _ | exact HPL.out | (simp <;> omega) | simp) _))
            · first | exact HEC.out | exact wcell_next HEC.out ((Below.refl _ _).alloc (Nat.le_refl _) _) | exact hHeld1.2 | exact hHeld.2
          clear hK K
          try simp only [Act.put, List.setIfInBounds_toArray, List.set_cons_zero, List.set_cons_succ]
          refine wpAnyH_take (i := 5) (v := ?v97) rfl (by kernel_rfl) (by kernel_rfl) (by kernel_rfl) (fun _ _ _ h => h) (Or.inl ⟨by rfl, ?hy97⟩) (by assumption) ?_
          case hy97 =>
            intro w hSw
            (try dsimp only at hSw)
            go_simp
            all_goals with_reducible rfl
          change wpAnyH _ _ _ _ _ _ _ (Act.put _ (some 126) _) _
          try simp only [Act.put, List.setIfInBounds_toArray, List.set_cons_zero, List.set_cons_succ]
          refine wpAnyH_take (i := 6) (v := ?v98) rfl (by kernel_rfl) (by kernel_rfl) (by kernel_rfl) (fun _ _ _ h => h) (Or.inl ⟨by rfl, ?hy98⟩) (by assumption) ?_
          case hy98 =>
            intro w hSw
            (try dsimp only at hSw)
            go_simp
            all_goals with_reducible rfl
          change wpAnyH _ _ _ _ _ _ _ (Act.put _ (some 127) _) _
          try simp only [Act.put, List.setIfInBounds_toArray, List.set_cons_zero, List.set_cons_succ]
          refine wpAnyH_ready (rs := [7]) (by kernel_rfl) (by simp) ?_
          refine AllReadyH.cons rfl (fun K hK => ?_) AllReadyH.nil
          go_simp
          refine (HLN.out _ ?_).mono ?_
          · (repeat (first | with_reducible exact Below.refl _ _ | with_reducible refine Below.drew ?_ | with_reducible refine Below.alloc ?_ (by first | exact Nat.le_refl _ | (simp <;> omega) | simp) _ | with_reducible refine Below.setCell ?_ (by first | exact Nat.le_refl _ | (simp <;> omega) | simp) _))
          rintro e w8 ⟨a8, k8, al, cl, rfl, ho8, ht8, hb8, hB8, hz8⟩
          have HO8 := hid ho8
          have HT8 := hid ht8
          have HB8 := hid hB8
          have HZ8 := hid (hB8.size)
          have HU8 := hid hz8
          have HK8 : Hid (w8.heap[wr.heap.size]? = some (.cells #[.int .i64 0, .string ⟨#[]⟩, .string ⟨#[]⟩, .slice none 0 0, .string ⟨#[]⟩, .bool false] 26)) := hid (lm_next hb8 (drew_at (lm_up0 _ _)))
          have hk8 := HK8.out
          obtain ⟨g0, g1, g2, g3, g4, g5⟩ := ses_frz hk8
          obtain ⟨x0, x1, x2, x3, x4, x5⟩ := ses_box hk8
          clear hk8
          have HPL := hid (show wr.heap.size ≤ wr.heap.size by omega)
          have HEE := hid (LnB.old (c := co) HO8.out HT8.out HB8.out HU8.out HPL.out (by first | (simp; done) | (simp; omega)) HK8.out)
          have hE8 := wcell_next (show (_ : World).cell? ⟨wr.heap.size + 1, o, none⟩ = _ from (by first | exact hHeld1.2 | exact hHeld.2)) hb8
          have hnP : wr.heap.size + 1 ≠ wr.heap.size := by omega
          clear ho8 ht8 hb8 hB8 hz8
          go_wp2_with fail
          refine hK.out _ _ ?_ (fun hHeld => ?_)
          · refine ⟨HC.out _ ?_, ?_⟩
            · (repeat (first | with_reducible exact HB8.out | with_reducible exact Below.refl _ _ | with_reducible refine Below.drew ?_ | with_reducible refine Below.alloc ?_ (by first | exact Nat.le_refl _ | exact HZ8.out | (simp <;> omega) | simp) _ | with_reducible refine Below.setCell ?_ (by first | exact Nat.le_refl _ | exact HPL.out | (simp <;> omega) | simp) _))
            · exact hE8
          clear hK K
          try simp only [Act.put, List.setIfInBounds_toArray, List.set_cons_zero, List.set_cons_succ]
          refine wpAnyH_take (i := 8) (v := ?v99) rfl (by kernel_rfl) (by kernel_rfl) (by kernel_rfl) (fun _ _ _ h => h) (Or.inl ⟨by rfl, ?hy99⟩) (by assumption) ?_
          case hy99 =>
            intro w hSw
            (try dsimp only at hSw)
            go_simp
            all_goals with_reducible rfl
          change wpAnyH _ _ _ _ _ _ _ (Act.put _ (some 120) _) _
          try simp only [Act.put, List.setIfInBounds_toArray, List.set_cons_zero, List.set_cons_succ]
          refine wpAnyH_take (i := 9) (v := ?v100) rfl (by kernel_rfl) (by kernel_rfl) (by kernel_rfl) (fun _ _ _ h => h) (Or.inl ⟨by rfl, ?hy100⟩) (by assumption) ?_
          case hy100 =>
            intro w hSw
            (try dsimp only at hSw)
            go_simp
            all_goals with_reducible rfl
          change wpAnyH _ _ _ _ _ _ _ (Act.put _ (some 129) _) _
          try simp only [Act.put, List.setIfInBounds_toArray, List.set_cons_zero, List.set_cons_succ]
          refine wpAnyH_take (i := 10) (v := ?v101) rfl (by kernel_rfl) (by kernel_rfl) (by kernel_rfl) (fun _ _ _ h => h) (Or.inl ⟨by rfl, ?hy101⟩) (by assumption) ?_
          case hy101 =>
            intro w hSw
            (try dsimp only at hSw)
            go_simp
            all_goals with_reducible rfl
          change wpAnyH _ _ _ _ _ _ _ (Act.put _ (some 130) _) _
          try simp only [Act.put, List.setIfInBounds_toArray, List.set_cons_zero, List.set_cons_succ]
          refine wpAnyH_take (i := 11) (v := ?v102) rfl (by kernel_rfl) (by kernel_rfl) (by kernel_rfl) (fun _ _ _ h => h) (Or.inl ⟨by rfl, ?hy102⟩) (by assumption) ?_
          case hy102 =>
            intro w hSw
            (try dsimp only at hSw)
            go_simp
            all_goals with_reducible rfl
          change wpAnyH _ _ _ _ _ _ _ (Act.put _ (some 131) _) _
          try simp only [Act.put, List.setIfInBounds_toArray, List.set_cons_zero, List.set_cons_succ]
          refine wpAnyH_take (i := 12) (v := ?v103) rfl (by kernel_rfl) (by kernel_rfl) (by kernel_rfl) (fun _ _ _ h => h) (Or.inl ⟨by rfl, ?hy103⟩) (by assumption) ?_
          case hy103 =>
            intro w hSw
            (try dsimp only at hSw)
            go_simp
            all_goals with_reducible rfl
          change wpAnyH _ _ _ _ _ _ _ (Act.put _ (some 132) _) _
          try simp only [Act.put, List.setIfInBounds_toArray, List.set_cons_zero, List.set_cons_succ]
          refine wpAnyH_ready (rs := [14]) (by kernel_rfl) (by simp) ?_
          refine AllReadyH.cons rfl (fun K hK => ?_) AllReadyH.nil
          go_simp
          refine hK.out _ _ ?_ (fun hHeld => ?_)
          · refine ⟨HC.out _ ?_, ?_⟩
            · (repeat (first | with_reducible exact HB8.out | with_reducible exact Below.refl _ _ | with_reducible refine Below.drew ?_ | with_reducible refine Below.alloc ?_ (by first | exact Nat.le_refl _ | exact HZ8.out | (simp <;> omega) | simp) _ | with_reducible refine Below.setCell ?_ (by first | exact Nat.le_refl _ | exact HPL.out | (simp <;> omega) | simp) _))
            · (repeat (first | with_reducible exact hE8 | with_reducible refine lm_far ?_ hnP))
          clear hK K
          try simp only [Act.put, List.setIfInBounds_toArray, List.set_cons_zero, List.set_cons_succ]
          refine wpAnyH_take (i := 15) (v := ?v104) rfl (by kernel_rfl) (by kernel_rfl) (by kernel_rfl) (fun _ _ _ h => h) (Or.inl ⟨by rfl, ?hy104⟩) (by assumption) ?_
          case hy104 =>
            intro w hSw
            (try dsimp only at hSw)
            go_simp
            all_goals with_reducible rfl
          change wpAnyH _ _ _ _ _ _ _ (Act.put _ (some 22) _) _
          try simp only [Act.put, List.setIfInBounds_toArray, List.set_cons_zero, List.set_cons_succ]
          refine wpAnyH_take (i := 16) (v := ?v105) rfl (by kernel_rfl) (by kernel_rfl) (by kernel_rfl) (fun _ _ _ h => h) (Or.inl ⟨by rfl, ?hy105⟩) (by assumption) ?_
          case hy105 =>
            intro w hSw
            (try dsimp only at hSw)
            go_simp
            all_goals with_reducible rfl
          change wpAnyH _ _ _ _ _ _ _ (Act.put _ (some 23) _) _
          try simp only [Act.put, List.setIfInBounds_toArray, List.set_cons_zero, List.set_cons_succ]
          refine wpAnyH_take (i := 17) (v := ?v106) rfl (by kernel_rfl) (by kernel_rfl) (by kernel_rfl) (fun _ _ _ h => h) (Or.inl ⟨by rfl, ?hy106⟩) (by assumption) ?_
          case hy106 =>
            intro w hSw
            (try dsimp only at hSw)
            go_simp
            all_goals with_reducible rfl
          change wpAnyH _ _ _ _ _ _ _ (Act.put _ (some 24) _) _
          try simp only [Act.put, List.setIfInBounds_toArray, List.set_cons_zero, List.set_cons_succ]
          refine wpAnyH_done (by kernel_rfl) ?_ _
          have HE := HEE
          go_wp2_with fail
          go_meet
          exact HE.out
        refine AllReadyH.cons rfl (fun K hK => ?_) AllReadyH.nil
        go_simp
        refine (HPO.out _).mono ?_
        rintro e w9 ⟨rfl, rfl⟩
        go_wp2_with fail
        refine hK.out _ _ ?_ (fun hHeld => ?_)
        · refine HC.out _ ?_
          (repeat (first | with_reducible exact HB8.out | with_reducible exact Below.refl _ _ | with_reducible refine Below.drew ?_ | with_reducible refine Below.alloc ?_ (by first | exact Nat.le_refl _ | exact HZ8.out | (simp <;> omega) | simp) _ | with_reducible refine Below.setCell ?_ (by first | exact Nat.le_refl _ | exact HPL.out | (simp <;> omega) | simp) _))
        clear hK K
        try simp only [Act.put, List.setIfInBounds_toArray, List.set_cons_zero, List.set_cons_succ]
        refine wpAnyH_ready (rs := [2]) (by kernel_rfl) (by simp) ?_
        refine AllReadyH.cons rfl (fun K hK => ?_) AllReadyH.nil
        go_simp
        refine hK.out _ _ ?_ (fun hHeld => ?_)
        · refine HC.out _ ?_
          (repeat (first | with_reducible exact HB8.out | with_reducible exact Below.refl _ _ | with_reducible refine Below.drew ?_ | with_reducible refine Below.alloc ?_ (by first | exact Nat.le_refl _ | exact HZ8.out | (simp <;> omega) | simp) _ | with_reducible refine Below.setCell ?_ (by first | exact Nat.le_refl _ | exact HPL.out | (simp <;> omega) | simp) _))
        clear hK K
        try simp only [Act.put, List.setIfInBounds_toArray, List.set_cons_zero, List.set_cons_succ]
        have HEC := hid (en_cell (R := wr.heap.size + 1) (show (_ : World).heap[wr.heap.size + 1]? = _ from drew_at (lm_at1 (.cells #[.int .i64 0, .string ⟨#[]⟩, .string ⟨#[]⟩, .slice none 0 0, .string ⟨#[]⟩, .bool false] 26) _)) ho2 HNX.out)
        refine wpAnyH_switch (E := fun u : World => u.cell? ⟨wr.heap.size + 1, o, none⟩ = some (.string (S nx))) hHeld HEC.out (fun hHeld1 => ?_)
        clear hHeld
        refine wpAnyH_take (i := 5) (v := ?v107) rfl (by kernel_rfl) (by kernel_rfl) (by kernel_rfl) (fun _ _ _ h => h) (Or.inl ⟨by rfl, ?hy107⟩) (by assumption) ?_
        case hy107 =>
          intro w hSw
          (try dsimp only at hSw)
          go_simp
          all_goals with_reducible rfl
        change wpAnyH _ _ _ _ _ _ _ (Act.put _ (some 126) _) _
        try simp only [Act.put, List.setIfInBounds_toArray, List.set_cons_zero, List.set_cons_succ]
        refine wpAnyH_take (i := 6) (v := ?v108) rfl (by kernel_rfl) (by kernel_rfl) (by kernel_rfl) (fun _ _ _ h => h) (Or.inl ⟨by rfl, ?hy108⟩) (by assumption) ?_
        case hy108 =>
          intro w hSw
          (try dsimp only at hSw)
          go_simp
          all_goals with_reducible rfl
        change wpAnyH _ _ _ _ _ _ _ (Act.put _ (some 127) _) _
        try simp only [Act.put, List.setIfInBounds_toArray, List.set_cons_zero, List.set_cons_succ]
        refine wpAnyH_ready (rs := [7]) (by kernel_rfl) (by simp) ?_
        refine AllReadyH.cons rfl (fun K hK => ?_) AllReadyH.nil
        go_simp
        refine (HLN.out _ ?_).mono ?_
        · (repeat (first | with_reducible exact Below.refl _ _ | with_reducible refine Below.drew ?_ | with_reducible refine Below.alloc ?_ (by first | exact Nat.le_refl _ | (simp <;> omega) | simp) _ | with_reducible refine Below.setCell ?_ (by first | exact Nat.le_refl _ | (simp <;> omega) | simp) _))
        rintro e w8 ⟨a8, k8, al, cl, rfl, ho8, ht8, hb8, hB8, hz8⟩
        have HO8 := hid ho8
        have HT8 := hid ht8
        have HB8 := hid hB8
        have HZ8 := hid (hB8.size)
        have HU8 := hid hz8
        have HK8 : Hid (w8.heap[wr.heap.size]? = some (.cells #[.int .i64 0, .string ⟨#[]⟩, .string ⟨#[]⟩, .slice none 0 0, .string ⟨#[]⟩, .bool false] 26)) := hid (lm_next hb8 (drew_at (lm_up0 _ _)))
        have hk8 := HK8.out
        obtain ⟨g0, g1, g2, g3, g4, g5⟩ := ses_frz hk8
        obtain ⟨x0, x1, x2, x3, x4, x5⟩ := ses_box hk8
        clear hk8
        have HPL := hid (show wr.heap.size ≤ wr.heap.size by omega)
        have HEE := hid (LnB.old (c := co) HO8.out HT8.out HB8.out HU8.out HPL.out (by first | (simp; done) | (simp; omega)) HK8.out)
        have hE8 := wcell_next (show (_ : World).cell? ⟨wr.heap.size + 1, o, none⟩ = _ from (by first | exact hHeld1.2 | exact hHeld.2)) hb8
        have hnP : wr.heap.size + 1 ≠ wr.heap.size := by omega
        clear ho8 ht8 hb8 hB8 hz8
        go_wp2_with fail
        refine hK.out _ _ ?_ (fun hHeld => ?_)
        · refine ⟨HC.out _ ?_, ?_⟩
          · (repeat (first | with_reducible exact HB8.out | with_reducible exact Below.refl _ _ | with_reducible refine Below.drew ?_ | with_reducible refine Below.alloc ?_ (by first | exact Nat.le_refl _ | exact HZ8.out | (simp <;> omega) | simp) _ | with_reducible refine Below.setCell ?_ (by first | exact Nat.le_refl _ | exact HPL.out | (simp <;> omega) | simp) _))
          · exact hE8
        clear hK K
        try simp only [Act.put, List.setIfInBounds_toArray, List.set_cons_zero, List.set_cons_succ]
        refine wpAnyH_take (i := 8) (v := ?v109) rfl (by kernel_rfl) (by kernel_rfl) (by kernel_rfl) (fun _ _ _ h => h) (Or.inl ⟨by rfl, ?hy109⟩) (by assumption) ?_
        case hy109 =>
          intro w hSw
          (try dsimp only at hSw)
          go_simp
          all_goals with_reducible rfl
        change wpAnyH _ _ _ _ _ _ _ (Act.put _ (some 120) _) _
        try simp only [Act.put, List.setIfInBounds_toArray, List.set_cons_zero, List.set_cons_succ]
        refine wpAnyH_take (i := 9) (v := ?v110) rfl (by kernel_rfl) (by kernel_rfl) (by kernel_rfl) (fun _ _ _ h => h) (Or.inl ⟨by rfl, ?hy110⟩) (by assumption) ?_
        case hy110 =>
          intro w hSw
          (try dsimp only at hSw)
          go_simp
          all_goals with_reducible rfl
        change wpAnyH _ _ _ _ _ _ _ (Act.put _ (some 129) _) _
        try simp only [Act.put, List.setIfInBounds_toArray, List.set_cons_zero, List.set_cons_succ]
        refine wpAnyH_take (i := 10) (v := ?v111) rfl (by kernel_rfl) (by kernel_rfl) (by kernel_rfl) (fun _ _ _ h => h) (Or.inl ⟨by rfl, ?hy111⟩) (by assumption) ?_
        case hy111 =>
          intro w hSw
          (try dsimp only at hSw)
          go_simp
          all_goals with_reducible rfl
        change wpAnyH _ _ _ _ _ _ _ (Act.put _ (some 130) _) _
        try simp only [Act.put, List.setIfInBounds_toArray, List.set_cons_zero, List.set_cons_succ]
        refine wpAnyH_take (i := 11) (v := ?v112) rfl (by kernel_rfl) (by kernel_rfl) (by kernel_rfl) (fun _ _ _ h => h) (Or.inl ⟨by rfl, ?hy112⟩) (by assumption) ?_
        case hy112 =>
          intro w hSw
          (try dsimp only at hSw)
          go_simp
          all_goals with_reducible rfl
        change wpAnyH _ _ _ _ _ _ _ (Act.put _ (some 131) _) _
        try simp only [Act.put, List.setIfInBounds_toArray, List.set_cons_zero, List.set_cons_succ]
        refine wpAnyH_take (i := 12) (v := ?v113) rfl (by kernel_rfl) (by kernel_rfl) (by kernel_rfl) (fun _ _ _ h => h) (Or.inl ⟨by rfl, ?hy113⟩) (by assumption) ?_
        case hy113 =>
          intro w hSw
          (try dsimp only at hSw)
          go_simp
          all_goals with_reducible rfl
        change wpAnyH _ _ _ _ _ _ _ (Act.put _ (some 132) _) _
        try simp only [Act.put, List.setIfInBounds_toArray, List.set_cons_zero, List.set_cons_succ]
        refine wpAnyH_ready (rs := [14]) (by kernel_rfl) (by simp) ?_
        refine AllReadyH.cons rfl (fun K hK => ?_) AllReadyH.nil
        go_simp
        refine hK.out _ _ ?_ (fun hHeld => ?_)
        · refine ⟨HC.out _ ?_, ?_⟩
          · (repeat (first | with_reducible exact HB8.out | with_reducible exact Below.refl _ _ | with_reducible refine Below.drew ?_ | with_reducible refine Below.alloc ?_ (by first | exact Nat.le_refl _ | exact HZ8.out | (simp <;> omega) | simp) _ | with_reducible refine Below.setCell ?_ (by first | exact Nat.le_refl _ | exact HPL.out | (simp <;> omega) | simp) _))
          · (repeat (first | with_reducible exact hE8 | with_reducible refine lm_far ?_ hnP))
        clear hK K
        try simp only [Act.put, List.setIfInBounds_toArray, List.set_cons_zero, List.set_cons_succ]
        refine wpAnyH_take (i := 15) (v := ?v114) rfl (by kernel_rfl) (by kernel_rfl) (by kernel_rfl) (fun _ _ _ h => h) (Or.inl ⟨by rfl, ?hy114⟩) (by assumption) ?_
        case hy114 =>
          intro w hSw
          (try dsimp only at hSw)
          go_simp
          all_goals with_reducible rfl
        change wpAnyH _ _ _ _ _ _ _ (Act.put _ (some 22) _) _
        try simp only [Act.put, List.setIfInBounds_toArray, List.set_cons_zero, List.set_cons_succ]
        refine wpAnyH_take (i := 16) (v := ?v115) rfl (by kernel_rfl) (by kernel_rfl) (by kernel_rfl) (fun _ _ _ h => h) (Or.inl ⟨by rfl, ?hy115⟩) (by assumption) ?_
        case hy115 =>
          intro w hSw
          (try dsimp only at hSw)
          go_simp
          all_goals with_reducible rfl
        change wpAnyH _ _ _ _ _ _ _ (Act.put _ (some 23) _) _
        try simp only [Act.put, List.setIfInBounds_toArray, List.set_cons_zero, List.set_cons_succ]
        refine wpAnyH_take (i := 17) (v := ?v116) rfl (by kernel_rfl) (by kernel_rfl) (by kernel_rfl) (fun _ _ _ h => h) (Or.inl ⟨by rfl, ?hy116⟩) (by assumption) ?_
        case hy116 =>
          intro w hSw
          (try dsimp only at hSw)
          go_simp
          all_goals with_reducible rfl
        change wpAnyH _ _ _ _ _ _ _ (Act.put _ (some 24) _) _
        try simp only [Act.put, List.setIfInBounds_toArray, List.set_cons_zero, List.set_cons_succ]
        refine wpAnyH_done (by kernel_rfl) ?_ _
        have HE := HEE
        go_wp2_with fail
        go_meet
        exact HE.out
      case rest =>
        obtain ⟨P, al, cl, rfl, rfl, rfl, rfl, hP, ⟨ra, rk, hR, hRO⟩, hRT, hb⟩ := hcut
        obtain ⟨q0, q1, q2, q3, q4, q5⟩ := ses_box hR
        have HBE := hid (show Below w.heap.size w wc from HBF.out.trans (hb.mono HBF.out.size))
        have hr := HRE.out
        have hc := HCO.out
        have h01 : o = 0 ∨ o = 1 := by omega
        clear hR hRO hRT hb hP z0 z1 z2 z3 z4 z5 q1 q2 q4 q5
        rcases h01 with rfl | rfl
        all_goals
          subst hr
          subst hc
          simp only [atS, if_true, List.length_nil] at q0 q3
          go_wp2
          go_ret
          exact ⟨by first | rfl | simp, HBE.out⟩
end Go.Proofs.Ytoiblibminhojaa
