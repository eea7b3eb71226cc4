/-
  A line that is no command changes nothing: walked.
-/
import Derived.Test.YtoiblibminhojaaLmRdy
import Derived.Test.YtoiblibminhojaaLmLw3
import Derived.Test.YtoiblibminhojaaLmZer
import Derived.Test.YtoiblibminhojaaKeepPick
namespace Go.Proofs.Ytoiblibminhojaa
open Go.RowKit Go.Proofs

theorem ang_text (a : Adr) : (⟨#[60]⟩ : ByteArray) ++ S a.1 ++ ⟨#[64]⟩ ++ S a.2 ++ ⟨#[62]⟩ = S (angA a) := by
  rw [← S_list ((⟨#[60]⟩ : ByteArray) ++ S a.1 ++ ⟨#[64]⟩ ++ S a.2 ++ ⟨#[62]⟩)]
  simp [list_S, angA, textA]
theorem mailU_text (t : List UInt8) : (⟨#[77, 65, 73, 76, 32, 70, 82, 79, 77, 58]⟩ : ByteArray) ++ S t = S (mailU ++ t) := by
  rw [← S_list ((⟨#[77, 65, 73, 76, 32, 70, 82, 79, 77, 58]⟩ : ByteArray) ++ S t)]
  simp [list_S, mailU]
theorem mailB_text (t : List UInt8) : (⟨#[77, 65, 73, 76, 32, 70, 82, 79, 77, 58, 32]⟩ : ByteArray) ++ S t = S (mailU ++ 32 :: t) := by
  rw [← S_list ((⟨#[77, 65, 73, 76, 32, 70, 82, 79, 77, 58, 32]⟩ : ByteArray) ++ S t)]
  simp [list_S, mailU]
theorem rcptU_text (t : List UInt8) : (⟨#[82, 67, 80, 84, 32, 84, 79, 58]⟩ : ByteArray) ++ S t = S (rcptU ++ t) := by
  rw [← S_list ((⟨#[82, 67, 80, 84, 32, 84, 79, 58]⟩ : ByteArray) ++ S t)]
  simp [list_S, rcptU]
set_option maxHeartbeats 1000000 in
set_option maxRecDepth 100000 in
theorem lineOdd_walk (fl fd fg tl td tg : ByteArray) (x y : Value) (s1 : fl.size ≤ maxLen) (s2 : fd.size ≤ maxLen) (_ : tl.size ≤ maxLen) (_ : td.size ≤ maxLen) (n : Int) (hn : (Lit.int .i64 n).wf = true) (st : Int) (hst : (Lit.int .i64 st).wf = true) (w : World) :
    Calls Try.prog 6 #[.agg #[.string fl, .string fd, .string fg, .string tl, .string td, .string tg, x, y], .int .i64 n, .int .i64 st] w fun e w' => e = .returned (.bool true) ∧ Below w.heap.size w w' := by
  obtain ⟨f, hf⟩ : ∃ f, f = adrOf fl.data.toList fd.data.toList := ⟨_, rfl⟩
  have HF := hid (show lawful f by rw [hf]; exact adrOf_lawful _ _)
  have e1 : (S f.1).size ≤ 8 := by rw [size_S]; exact HF.out.len.1
  have e2 : (S f.2).size ≤ 12 := by rw [size_S]; exact HF.out.len.2
  have e3 : (S (angA f)).size ≤ 23 := by rw [size_S]; exact angA_len HF.out
  obtain ⟨W0, hW0⟩ : ∃ W0, W0 = w.alloc (.cells #[.string fl, .string fd, .string fg, .string tl, .string td, .string tg, x, y] 43) := ⟨_, rfl⟩
  have HWE := hid hW0
  have HB0 := hid (show Below w.heap.size w W0 by rw [hW0]; exact (Below.refl _ _).alloc (Nat.le_refl _) _)
  have hP0 : W0.heap[w.heap.size]? = some (.cells #[.string fl, .string fd, .string fg, .string tl, .string td, .string tg, x, y] 43) := by rw [hW0]; exact heap_alloc_new w _
  have HA1 := hid (address_any fl fd fg W0 s1 s2)
  rw [← hf] at HA1
  obtain ⟨p0, p1, p2, _, _, _⟩ := post_box hP0
  obtain ⟨o, ho⟩ : ∃ o, o = pickN n 14 := ⟨_, rfl⟩
  have ho14 : o < 14 := by rw [ho]; exact pickN_lt n 14 (by omega)
  have HPO := hid (show ∀ u, Calls Try.prog 17 #[.int .i64 n, .int .i64 14] u fun e w' => e = .returned (.int .i64 (o : Int)) ∧ w' = u from fun u => by rw [ho]; exact picked_any n 14 u hn (by omega) (by omega))
  obtain ⟨m, hm⟩ : ∃ m, m = pickN st 4 := ⟨_, rfl⟩
  have hm4 : m < 4 := by rw [hm]; exact pickN_lt st 4 (by omega)
  have HPM := hid (fun u => picked_any st 4 u hst (by omega) (by omega))
  rw [← hm] at HPM
  have HAT := hid (ang_text f)
  have HMT := hid (mailU_text (angA f))
  have HMB := hid (mailB_text (angA f))
  have HRT := hid (rcptU_text (angA f))
  clear hW0 hP0 s1 s2 hf hm hn ho hst
  go_enter Try.func6, Try.ntmps6
  go_upto_region 1 with fail
  rw [← HWE.out]
  go_wp2_with fail
  refine HA1.out.mono ?_
  rintro e w1 ⟨rfl, hb1⟩
  obtain ⟨b7, hb7⟩ : ∃ b, b = w1.heap.size := ⟨_, rfl⟩
  have HE7 := hid hb7
  obtain ⟨W1, hW1⟩ : ∃ W1, W1 = w1.alloc (.cells #[.string (S f.1), .string (S f.2)] 23) := ⟨_, rfl⟩
  have HWE1 := hid hW1
  have hB1 : Below w1.heap.size w1 W1 := by rw [hW1]; exact (Below.refl _ _).alloc (Nat.le_refl _) _
  have HB1 := hid (show Below w.heap.size w W1 from (HB0.out.trans (hb1.mono HB0.out.size)).trans (hB1.mono (Nat.le_trans HB0.out.size hb1.size)))
  have hF1 : W1.heap[b7]? = some (.cells #[.string (S f.1), .string (S f.2)] 23) := by rw [hW1, hb7]; exact heap_alloc_new _ _
  obtain ⟨f0, f1⟩ := adr_box hF1
  have HF1 := hid hF1
  clear hb7 hW1 hB1 hb1 hF1
  go_upto_region 2 with fail
  rw [← HWE1.out, ← HE7.out]
  clear p0 p1 p2
  go_upto_region 3 with fail
  rw [HAT.out]
  go_upto_region 4 with fail
  rw [HMT.out, HRT.out]
  obtain ⟨b9, hb9⟩ : ∃ b, b = W1.heap.size := ⟨_, rfl⟩
  have HE9 := hid hb9
  obtain ⟨b10, hb10⟩ : ∃ b, b = b9 + 1 := ⟨_, rfl⟩
  have HE10 := hid hb10
  obtain ⟨W3, hW3⟩ : ∃ W3, W3 = (W1.alloc (.cells #[.string ⟨#[76, 72, 76, 79, 32, 97]⟩, .string (S (mailU ++ angA f)), .string (S (rcptU ++ angA f))] 9)).alloc (.cells #[.int .i64 0, .string ⟨#[]⟩, .string ⟨#[]⟩, .slice none 0 0, .string ⟨#[]⟩, .bool false] 26) := ⟨_, rfl⟩
  have HWE3 := hid hW3
  have hB3 : Below W1.heap.size W1 W3 := by rw [hW3]; exact ((Below.refl _ _).alloc (Nat.le_refl _) _).alloc (by simp) _
  have hL3 : W3.heap[b9]? = some (.cells #[.string ⟨#[76, 72, 76, 79, 32, 97]⟩, .string (S (mailU ++ angA f)), .string (S (rcptU ++ angA f))] 9) := by rw [hW3, hb9]; exact lm_up0 _ _
  have HL3 := hid (fun (k : Nat) (hk : k < 3) => show W3.cell? ⟨b9, k, none⟩ = some (.string (S (odL f k))) by
    obtain rfl | rfl | rfl : k = 0 ∨ k = 1 ∨ k = 2 := by omega
    all_goals (simp [World.cell?, hL3]; first | rfl | done))
  have HS3 := hid (show SesB W3 b10 0 (rdS f f 0) from ⟨none, 0, by rw [hW3, hb10, hb9]; exact lm_at1 _ _, World.ownsRow_nil _ _ _ _⟩)
  have HT3 := hid (lm_next hB3 HF1.out)
  have HB3 := hid (HB1.out.trans (hB3.mono HB1.out.size))
  have HN := hid (show b7 < b9 ∧ b9 < b10 ∧ w.heap.size ≤ b10 by
    rw [hb10, hb9]
    exact ⟨(Array.getElem?_eq_some_iff.1 HF1.out).1, Nat.lt_succ_self _, Nat.le_trans HB1.out.size (Nat.le_succ _)⟩)
  clear hb9 hb10 hW3 hB3 hL3 f0 f1 e1 e2
  go_upto_region 5 with fail
  rw [← HWE3.out, ← HE9.out, ← HE10.out]
  go_wp2
  go_loopw [11] (fun i wr => ∃ k : Nat, k ≤ m ∧ i = .int .i64 k ∧ Hid (SesB wr b10 0 (rdS f f k)) ∧ Hid (Below b10 W3 wr)) (fun i _ => m - (intOf i).toNat)
  case atStart => exact ⟨0, Nat.zero_le _, rfl, HS3, Below.refl _ _⟩
  case round =>
    obtain ⟨k, hk, rfl, HS, HB⟩ := hrel
    have hn := HN.out
    obtain ⟨sa, sk, hS, hO⟩ := HS.out
    have hlt : b10 < wr.heap.size := (Array.getElem?_eq_some_iff.1 hS).1
    have HM := hid (rd_may HF.out HF.out k (by omega))
    obtain ⟨s, hs⟩ : ∃ s, s = rdS f f k := ⟨_, rfl⟩
    have HSE := hid hs
    rw [← hs] at hS hO HM
    obtain ⟨z0, z1, z2, z3, z4, z5⟩ := ses_box hS
    have HSX := hid hS
    have HOO := hid hO
    have HHL := hid hlt
    have t0 : wr.cell? ⟨b7, 0, none⟩ = some (.string (S f.1)) := (adr_box (lm_low HB.out HT3.out (by omega))).1
    have HPW := hid (HPM.out wr)
    go_wp2_with fail
    refine HPW.out.mono ?_
    rintro e w2 ⟨rfl, hw2⟩
    rw [hw2]
    clear hw2 w2
    by_cases hkm : k < m
    · have k1 : (k : Int) < (m : Int) := by omega
      have k3 : (k : Int) < 3 := by omega
      have k0 : (0 : Int) ≤ (k : Int) := by omega
      have l0 : wr.cell? ⟨b9, k, none⟩ = some (.string (S (odL f k))) := (HB.out.cell (p := ⟨b9, k, none⟩) hn.2.1).trans (HL3.out k (by omega))
      have HL := hid (od_step HF.out k (by omega))
      have HLE := hid (show (odL f k).length ≤ 140737488355328 by have := od_len HF.out k; omega)
      obtain ⟨r, hr⟩ : ∃ r, r = rdS f f (k + 1) := ⟨_, rfl⟩
      obtain ⟨ln, hln⟩ : ∃ ln, ln = odL f k := ⟨_, rfl⟩
      rw [← hln] at l0 HLE
      rw [← hs, ← hr, ← hln] at HL
      have HRE := hid hr
      obtain ⟨co, hco⟩ : ∃ co : Int, co = 250 := ⟨_, rfl⟩
      rw [← hco] at HL
      have HLN := hid (fun (u : World) (q : Nat) (hu : Below wr.heap.size wr u) (hq : u.heap[q]? = some (.cells #[.string (S f.1)] 9)) => line_ok (W := wr) HM.out HL.out (AdrsM.any ((own_next hO hu).row (by have := may_to HM.out; unfold maxLen; omega))) (own_roomy hO) (txt_one (c := 1) hq) HLE.out hu)
      have HC := hid (fun (u : World) (hu : Below wr.heap.size wr u) => show (u.cell? ⟨b10, 0, none⟩ = some (.int .i64 s.step) ∧ u.cell? ⟨b10, 1, none⟩ = some (.string (S s.frm.1)) ∧ u.cell? ⟨b10, 2, none⟩ = some (.string (S s.frm.2)) ∧ u.cell? ⟨b10, 3, none⟩ = some (.slice sa s.to.length sk) ∧ u.cell? ⟨b10, 4, none⟩ = some (.string (S s.text)) ∧ u.cell? ⟨b10, 5, none⟩ = some (.bool s.large) ∧ u.cell? ⟨b7, 0, none⟩ = some (.string (S f.1)) ∧ u.cell? ⟨b9, k, none⟩ = some (.string (S ln))) from ⟨wcell_next z0 hu, wcell_next z1 hu, wcell_next z2 hu, wcell_next z3 hu, wcell_next z4 hu, wcell_next z5 hu, wcell_next t0 hu, wcell_next l0 hu⟩)
      clear hS hO hn hs hr hln hco hlt
      go_wp2_with fail
      go_cut [12, 13, 14, 15] (fun vp vc vl ve wx => LnB wr r co [] vp vc vl ve wx)
      case first =>
        go_region_held3 (fun u => u.cell? ⟨b10, 0, none⟩ = some (.int .i64 s.step) ∧ u.cell? ⟨b10, 1, none⟩ = some (.string (S s.frm.1)) ∧ u.cell? ⟨b10, 2, none⟩ = some (.string (S s.frm.2)) ∧ u.cell? ⟨b10, 3, none⟩ = some (.slice sa s.to.length sk) ∧ u.cell? ⟨b10, 4, none⟩ = some (.string (S s.text)) ∧ u.cell? ⟨b10, 5, none⟩ = some (.bool s.large) ∧ u.cell? ⟨b7, 0, none⟩ = some (.string (S f.1)) ∧ u.cell? ⟨b9, k, none⟩ = some (.string (S ln)))
          (first | (refine HC.out _ ?_; (repeat (first | with_reducible exact HB8.out | with_reducible exact Below.refl _ _ | with_reducible refine Below.drew ?_ | with_reducible refine Below.alloc ?_ (by first | exact Nat.le_refl _ | exact HZ8.out | (simp <;> omega) | simp) _ | with_reducible refine Below.setCell ?_ (by first | exact Nat.le_refl _ | (simp <;> omega) | simp) _))) | fail)
          (first
            | (go_at_call 11
               refine (HLN.out _ _ ?_ ?_).mono ?_
               · repeat (first | exact Below.refl _ _ | refine Below.drew ?_ | refine Below.alloc ?_ (by first | exact Nat.le_refl _ | simp) _)
               · first | exact drew_at (lm_at0 _) | exact drew_at (lm_at1 _ _) | exact drew_at (lm_up0 _ _)
               rintro e w8 ⟨a8, k8, al, cl, rfl, ho8, ht8, hb8, hB8, hz8⟩
               have HO8 := hid ho8
               have HT8 := hid ht8
               have HB8 := hid hB8
               have HZ8 := hid hB8.size
               have HU8 := hid hz8
               first
                 | (have HK8 : Hid (w8.heap[wr.heap.size]? = some (.cells #[.int .i64 0, .string ⟨#[]⟩, .string ⟨#[]⟩, .slice none 0 0, .string ⟨#[]⟩, .bool false] 26)) := hid (lm_next hb8 (drew_at (lm_up0 _ _))); have hk8 := HK8.out; obtain ⟨g0, g1, g2, g3, g4, g5⟩ := ses_frz hk8; obtain ⟨x0, x1, x2, x3, x4, x5⟩ := ses_box hk8; clear hk8)
                 | (have HK8 : Hid (w8.heap[wr.heap.size + 1]? = some (.cells #[.int .i64 0, .string ⟨#[]⟩, .string ⟨#[]⟩, .slice none 0 0, .string ⟨#[]⟩, .bool false] 26)) := hid (lm_next hb8 (drew_at (lm_at1 _ _))); have hk8 := HK8.out; obtain ⟨g0, g1, g2, g3, g4, g5⟩ := ses_frz hk8; obtain ⟨x0, x1, x2, x3, x4, x5⟩ := ses_box hk8; clear hk8)
                 | skip
               clear ho8 ht8 hb8 hB8 hz8)
            | fail)
        all_goals
          first
            | (have HE := hid (LnB.old (c := co) HO8.out HT8.out HB8.out HU8.out (by first | exact Nat.le_refl _ | omega) (by first | (simp; done) | (simp; omega)) HK8.out)
               go_wp2_with fail
               go_meet
               exact HE.out)
            | (have HE := hid (LnB.new (c := co) HO8.out HT8.out HB8.out HU8.out)
               go_wp2_with fail
               go_meet
               exact HE.out)
            | fail
      case rest =>
        obtain ⟨P, al, cl, rfl, rfl, rfl, rfl, hP, ⟨ra, rk, hR, hRO⟩, hRT, hb⟩ := hcut
        have hl := HHL.out
        have hX := lm_next hb HSX.out
        obtain ⟨q0, q1, q2, q3, q4, q5⟩ := ses_box hR
        obtain ⟨v0, v1, v2, v3, v4, v5⟩ := ses_frz hX
        obtain ⟨x0, x1, x2, x3, x4, x5⟩ := ses_box hX
        have HNS := hid (SesB.copy (B := 0) hX hRO hl (Nat.zero_le _))
        have HNB := hid (show Below b10 W3 _ from (HB.out.trans (hb.mono (by omega))).trans (low7 wc (.int .i64 r.step) (.string (S r.frm.1)) (.string (S r.frm.2)) (.slice ra r.to.length rk) (.string (S r.text)) (.bool r.large) (Nat.le_refl _)))
        clear hR hRO hRT hb hP hX z0 z1 z2 z3 z4 z5 l0 t0 hl
        go_wp2
        go_roundw
        case rel => exact ⟨k + 1, by omega, by simp, (by rw [← HRE.out]; exact HNS), HNB⟩
        case measure => simp [intOf]; omega
    · obtain rfl : k = m := by omega
      have k1 : ¬ (k : Int) < (k : Int) := by omega
      have HBF := hid (show Below w.heap.size w wr from HB3.out.trans (HB.out.mono hn.2.2))
      obtain ⟨co, hl, hco⟩ := odd_all HF.out k hm4 o ho14
      rw [← hs] at hl
      have hmk := make_zeros 400 400 rfl (by omega) wr
      have htz := text_zeros 400 wr
      have HLE := hid (show (oddL f o).length ≤ 140737488355328 by have := odd_len HF.out o; omega)
      obtain ⟨ze, hze⟩ : ∃ ze, ze = S (List.replicate 400 0) := ⟨_, rfl⟩
      rw [← hze] at htz
      obtain ⟨OZ, hOZ⟩ : ∃ OZ, OZ = Obj.cells (madeCells #[.int .u8 0] 400) 5 := ⟨_, rfl⟩
      rw [← hOZ] at hmk htz
      have HZE := hid hze
      obtain ⟨b16, hb16⟩ : ∃ b, b = wr.heap.size + 1 := ⟨_, rfl⟩
      have HE16 := hid hb16
      obtain ⟨W4, hW4⟩ : ∃ W4, W4 = (wr.alloc OZ).alloc (.cells #[.string ⟨#[]⟩, .string ⟨#[72, 69, 76, 79, 32, 97]⟩, .string ⟨#[76, 72, 76, 79]⟩, .string ⟨#[76, 72, 76, 79, 32]⟩, .string ⟨#[76, 72, 76, 79, 32, 97, 32, 98]⟩, .string (S (mailU ++ 32 :: angA f)), .string ⟨#[77, 65, 73, 76, 32, 70, 82, 79, 77, 58, 60, 62]⟩, .string ⟨#[82, 67, 80, 84, 32, 84, 79, 58, 60, 97, 64, 98, 62, 32]⟩, .string ⟨#[82, 67, 80, 84, 32, 84, 79, 58, 60, 110, 48, 110, 101, 64, 98, 62]⟩, .string ⟨#[100, 97, 116, 97, 32]⟩, .string ⟨#[78, 79, 79, 80, 32, 120]⟩, .string ⟨#[113, 117, 105, 116, 46]⟩, .string ⟨#[82, 67, 80, 84, 32, 84, 79, 58, 120, 32, 60, 97, 64, 98, 62]⟩, .string ze] 9) := ⟨_, rfl⟩
      have HWE4 := hid hW4
      have hB4 : Below wr.heap.size wr W4 := by rw [hW4]; exact ((Below.refl _ _).alloc (Nat.le_refl _) _).alloc (by simp) _
      have hO4 : W4.heap[b16]? = some (.cells #[.string ⟨#[]⟩, .string ⟨#[72, 69, 76, 79, 32, 97]⟩, .string ⟨#[76, 72, 76, 79]⟩, .string ⟨#[76, 72, 76, 79, 32]⟩, .string ⟨#[76, 72, 76, 79, 32, 97, 32, 98]⟩, .string (S (mailU ++ 32 :: angA f)), .string ⟨#[77, 65, 73, 76, 32, 70, 82, 79, 77, 58, 60, 62]⟩, .string ⟨#[82, 67, 80, 84, 32, 84, 79, 58, 60, 97, 64, 98, 62, 32]⟩, .string ⟨#[82, 67, 80, 84, 32, 84, 79, 58, 60, 110, 48, 110, 101, 64, 98, 62]⟩, .string ⟨#[100, 97, 116, 97, 32]⟩, .string ⟨#[78, 79, 79, 80, 32, 120]⟩, .string ⟨#[113, 117, 105, 116, 46]⟩, .string ⟨#[82, 67, 80, 84, 32, 84, 79, 58, 120, 32, 60, 97, 64, 98, 62]⟩, .string ze] 9) := by rw [hW4, hb16]; exact lm_at1 _ _
      have l0 : W4.cell? ⟨b16, o, none⟩ = some (.string (S (oddL f o))) := by
        obtain rfl | rfl | rfl | rfl | rfl | rfl | rfl | rfl | rfl | rfl | rfl | rfl | rfl | rfl : o = 0 ∨ o = 1 ∨ o = 2 ∨ o = 3 ∨ o = 4 ∨ o = 5 ∨ o = 6 ∨ o = 7 ∨ o = 8 ∨ o = 9 ∨ o = 10 ∨ o = 11 ∨ o = 12 ∨ o = 13 := by omega
        all_goals (simp only [World.cell?, hO4]; first | rfl | (rw [hze]; rfl))
      obtain ⟨ln, hln⟩ : ∃ ln, ln = oddL f o := ⟨_, rfl⟩
      rw [← hln] at l0 HLE hl
      have z0 := wcell_next z0 hB4
      have z1 := wcell_next z1 hB4
      have z2 := wcell_next z2 hB4
      have z3 := wcell_next z3 hB4
      have z4 := wcell_next z4 hB4
      have z5 := wcell_next z5 hB4
      have t0 := wcell_next t0 hB4
      have HX4 := hid (lm_next hB4 HSX.out)
      have HBF4 := hid (HBF.out.trans (hB4.mono HBF.out.size))
      have hO4' := own_next hO hB4
      have o0 : (0 : Int) ≤ (o : Int) := by omega
      have o1 : (o : Int) < 14 := by omega
      have HL2 := hid (fun (u : World) (q : Nat) (hu : Below W4.heap.size W4 u) (hq : u.heap[q]? = some (.cells #[.string (S f.1)] 9)) => line_ok (W := W4) HM.out hl (AdrsM.any ((own_next hO4' hu).row (by have := may_to HM.out; unfold maxLen; omega))) (own_roomy hO4') (txt_one (c := 1) hq) HLE.out hu)
      have HC2 := hid (fun (u : World) (hu : Below W4.heap.size W4 u) => show (u.cell? ⟨b10, 0, none⟩ = some (.int .i64 s.step) ∧ u.cell? ⟨b10, 1, none⟩ = some (.string (S s.frm.1)) ∧ u.cell? ⟨b10, 2, none⟩ = some (.string (S s.frm.2)) ∧ u.cell? ⟨b10, 3, none⟩ = some (.slice sa s.to.length sk) ∧ u.cell? ⟨b10, 4, none⟩ = some (.string (S s.text)) ∧ u.cell? ⟨b10, 5, none⟩ = some (.bool s.large) ∧ u.cell? ⟨b7, 0, none⟩ = some (.string (S f.1)) ∧ u.cell? ⟨b16, o, none⟩ = some (.string (S ln))) from ⟨wcell_next z0 hu, wcell_next z1 hu, wcell_next z2 hu, wcell_next z3 hu, wcell_next z4 hu, wcell_next z5 hu, wcell_next t0 hu, wcell_next l0 hu⟩)
      have HCO := hid hco
      clear hS hn hs hlt hze hOZ hW4 hB4 hO4 hO4' hb16 hln hO hl hco
      go_upto_region 13 with fail
      rw [HMB.out, ← HWE4.out, ← HE16.out]
      clear hmk htz
      go_cut [17, 18, 19, 20] (fun vp vc vl ve wx => LnB W4 s co [] vp vc vl ve wx)
      case first =>
        go_region_held3 (fun u => u.cell? ⟨b10, 0, none⟩ = some (.int .i64 s.step) ∧ u.cell? ⟨b10, 1, none⟩ = some (.string (S s.frm.1)) ∧ u.cell? ⟨b10, 2, none⟩ = some (.string (S s.frm.2)) ∧ u.cell? ⟨b10, 3, none⟩ = some (.slice sa s.to.length sk) ∧ u.cell? ⟨b10, 4, none⟩ = some (.string (S s.text)) ∧ u.cell? ⟨b10, 5, none⟩ = some (.bool s.large) ∧ u.cell? ⟨b7, 0, none⟩ = some (.string (S f.1)) ∧ u.cell? ⟨b16, o, none⟩ = some (.string (S ln)))
          (first | (refine HC2.out _ ?_; (repeat (first | with_reducible exact HB8.out | with_reducible exact Below.refl _ _ | with_reducible refine Below.drew ?_ | with_reducible refine Below.alloc ?_ (by first | exact Nat.le_refl _ | exact HZ8.out | (simp <;> omega) | simp) _ | with_reducible refine Below.setCell ?_ (by first | exact Nat.le_refl _ | (simp <;> omega) | simp) _))) | fail)
          (first
            | (go_at_call 17
               with_reducible refine (HPO.out _).mono ?_
               rintro e w9 ⟨rfl, rfl⟩)
            | (go_at_call 11
               refine (HL2.out _ _ ?_ ?_).mono ?_
               · repeat (first | exact Below.refl _ _ | refine Below.drew ?_ | refine Below.alloc ?_ (by first | exact Nat.le_refl _ | simp) _)
               · first | exact drew_at (lm_at0 _) | exact drew_at (lm_at1 _ _) | exact drew_at (lm_up0 _ _)
               rintro e w8 ⟨a8, k8, al, cl, rfl, ho8, ht8, hb8, hB8, hz8⟩
               have HO8 := hid ho8
               have HT8 := hid ht8
               have HB8 := hid hB8
               have HZ8 := hid hB8.size
               have HU8 := hid hz8
               first
                 | (have HK8 : Hid (w8.heap[W4.heap.size]? = some (.cells #[.int .i64 0, .string ⟨#[]⟩, .string ⟨#[]⟩, .slice none 0 0, .string ⟨#[]⟩, .bool false] 26)) := hid (lm_next hb8 (drew_at (lm_up0 _ _))); have hk8 := HK8.out; obtain ⟨g0, g1, g2, g3, g4, g5⟩ := ses_frz hk8; obtain ⟨x0, x1, x2, x3, x4, x5⟩ := ses_box hk8; clear hk8)
                 | (have HK8 : Hid (w8.heap[W4.heap.size + 1]? = some (.cells #[.int .i64 0, .string ⟨#[]⟩, .string ⟨#[]⟩, .slice none 0 0, .string ⟨#[]⟩, .bool false] 26)) := hid (lm_next hb8 (drew_at (lm_at1 _ _))); have hk8 := HK8.out; obtain ⟨g0, g1, g2, g3, g4, g5⟩ := ses_frz hk8; obtain ⟨x0, x1, x2, x3, x4, x5⟩ := ses_box hk8; clear hk8)
                 | skip
               clear ho8 ht8 hb8 hB8 hz8)
            | fail)
        all_goals
          first
            | (have HE := hid (LnB.old (c := co) HO8.out HT8.out HB8.out HU8.out (by first | exact Nat.le_refl _ | omega) (by first | (simp; done) | (simp; omega)) HK8.out)
               go_wp2_with fail
               go_meet
               exact HE.out)
            | (have HE := hid (LnB.new (c := co) HO8.out HT8.out HB8.out HU8.out)
               go_wp2_with fail
               go_meet
               exact HE.out)
            | fail
      case rest =>
        obtain ⟨P, al, cl, rfl, rfl, rfl, rfl, hP, ⟨ra, rk, hR, hRO⟩, hRT, hb⟩ := hcut
        obtain ⟨q0, q1, q2, q3, q4, q5⟩ := ses_box hR
        obtain ⟨x0, x1, x2, x3, x4, x5⟩ := ses_box (lm_next hb HX4.out)
        have hc := HCO.out
        have c5 : (500 : Int) ≤ co := hc
        have hA := fun w => adr_eql s.frm s.frm w
        have HBE := hid (show Below w.heap.size w wc from HBF4.out.trans (hb.mono HBF4.out.size))
        clear hR hRO hRT hb hP z0 z1 z2 z3 z4 z5 l0 t0 hc
        go_wp2
        go_ret
        exact ⟨by first | rfl | simp, HBE.out⟩
end Go.Proofs.Ytoiblibminhojaa
