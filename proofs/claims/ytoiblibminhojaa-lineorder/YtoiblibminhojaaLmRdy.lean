/-
  What the laws' ready does: a session that stands in a letter's body.
-/
import Derived.Test.YtoiblibminhojaaLmLn
import Derived.Test.YtoiblibminhojaaKeepAdr
import Derived.Deep.DeepCutAuto
namespace Go.Proofs.Ytoiblibminhojaa
open Go.RowKit Go.Proofs

/-- What ready hands back. -/
def RdyP (w : World) (s : Ses) (e : Ending) (w' : World) : Prop := ∃ a k, e = .returned (.tuple #[.agg #[.int .i64 s.step, .string (S s.frm.1), .string (S s.frm.2), .slice a s.to.length k, .string (S s.text), .bool s.large], .bool true]) ∧ OwnL w' w.heap.size (.slice a s.to.length k) s.to ∧ Below w.heap.size w w'
theorem mail_text (a : Adr) : (⟨#[77, 65, 73, 76, 32, 70, 82, 79, 77, 58, 60]⟩ : ByteArray) ++ S a.1 ++ ⟨#[64]⟩ ++ S a.2 ++ ⟨#[62]⟩ = S (mailU ++ angA a) := by
  rw [← S_list ((⟨#[77, 65, 73, 76, 32, 70, 82, 79, 77, 58, 60]⟩ : ByteArray) ++ S a.1 ++ ⟨#[64]⟩ ++ S a.2 ++ ⟨#[62]⟩)]
  simp [list_S, mailU, angA, textA]
theorem rcpt_text (a : Adr) : (⟨#[114, 99, 112, 116, 32, 116, 111, 58, 60]⟩ : ByteArray) ++ S a.1 ++ ⟨#[64]⟩ ++ S a.2 ++ ⟨#[62]⟩ = S (rcptL ++ angA a) := by
  rw [← S_list ((⟨#[114, 99, 112, 116, 32, 116, 111, 58, 60]⟩ : ByteArray) ++ S a.1 ++ ⟨#[64]⟩ ++ S a.2 ++ ⟨#[62]⟩)]
  simp [list_S, rcptL, angA, textA]
theorem post_box {w : World} {b : Nat} {v0 v1 v2 v3 v4 v5 v6 v7 : Value} {t : TypeId} (h : w.heap[b]? = some (.cells #[v0, v1, v2, v3, v4, v5, v6, v7] t)) :
    w.cell? ⟨b, 0, none⟩ = some v0 ∧ w.cell? ⟨b, 1, none⟩ = some v1 ∧ w.cell? ⟨b, 2, none⟩ = some v2 ∧ w.cell? ⟨b, 3, none⟩ = some v3 ∧ w.cell? ⟨b, 4, none⟩ = some v4 ∧ w.cell? ⟨b, 5, none⟩ = some v5 := by
  simp [World.cell?, h]

set_option maxHeartbeats 1000000 in
set_option maxRecDepth 100000 in
theorem ready_any (fl fd fg tl td tg : ByteArray) (a c : Value) (w : World) (s1 : fl.size ≤ maxLen) (s2 : fd.size ≤ maxLen) (s3 : tl.size ≤ maxLen) (s4 : td.size ≤ maxLen) :
    Calls Try.prog 18 #[.agg #[.string fl, .string fd, .string fg, .string tl, .string td, .string tg, a, c]] w (RdyP w (rdS (adrOf fl.data.toList fd.data.toList) (adrOf tl.data.toList td.data.toList) 4)) := by
  obtain ⟨f, hf⟩ : ∃ f, f = adrOf fl.data.toList fd.data.toList := ⟨_, rfl⟩
  obtain ⟨t, ht⟩ : ∃ t, t = adrOf tl.data.toList td.data.toList := ⟨_, rfl⟩
  have HF := hid (show lawful f by rw [hf]; exact adrOf_lawful _ _)
  have HT := hid (show lawful t by rw [ht]; exact adrOf_lawful _ _)
  have e1 : (S f.1).size ≤ 8 := by rw [size_S]; exact HF.out.len.1
  have e2 : (S f.2).size ≤ 12 := by rw [size_S]; exact HF.out.len.2
  have e3 : (S t.1).size ≤ 8 := by rw [size_S]; exact HT.out.len.1
  have e4 : (S t.2).size ≤ 12 := by rw [size_S]; exact HT.out.len.2
  obtain ⟨W0, hW0⟩ : ∃ W0, W0 = (w.alloc (.cells #[.string fl, .string fd, .string fg, .string tl, .string td, .string tg, a, c] 43)).alloc (.cells #[.int .i64 0, .string ⟨#[]⟩, .string ⟨#[]⟩, .slice none 0 0, .string ⟨#[]⟩, .bool false] 26) := ⟨_, rfl⟩
  have HWE := hid hW0
  have HB0 := hid (show Below w.heap.size w W0 by rw [hW0]; exact ((Below.refl _ _).alloc (Nat.le_refl _) _).alloc (by simp) _)
  have HZ0 := hid (show W0.heap.size = w.heap.size + 2 by rw [hW0]; simp)
  have hP0 : W0.heap[w.heap.size]? = some (.cells #[.string fl, .string fd, .string fg, .string tl, .string td, .string tg, a, c] 43) := by rw [hW0]; exact heap_old _ (heap_alloc_new w _)
  have hR0 : W0.heap[w.heap.size + 1]? = some (.cells #[.int .i64 0, .string ⟨#[]⟩, .string ⟨#[]⟩, .slice none 0 0, .string ⟨#[]⟩, .bool false] 26) := by rw [hW0]; exact heap_at _ (by simp)
  have HP0 := hid hP0
  have HR0 := hid hR0
  have HA1 := hid (address_any fl fd fg W0 s1 s2)
  have HA2 := hid (fun u => address_any tl td tg u s3 s4)
  rw [← hf] at HA1
  rw [← ht] at HA2
  rw [← hf, ← ht]
  obtain ⟨p0, p1, p2, p3, p4, p5⟩ := post_box hP0
  clear hW0 hP0 hR0 s1 s2 s3 s4 hf ht
  go_enter Try.func18, Try.ntmps18
  go_upto_region 1 with fail
  rw [← HWE.out]
  go_wp2_with fail
  refine HA1.out.mono ?_
  rintro e w1 ⟨rfl, hb1⟩
  obtain ⟨W1, hW1⟩ : ∃ W1, W1 = w1.alloc (.cells #[.string (S f.1), .string (S f.2)] 23) := ⟨_, rfl⟩
  have HWE1 := hid hW1
  have hB1 : Below w1.heap.size w1 W1 := by rw [hW1]; exact (Below.refl _ _).alloc (Nat.le_refl _) _
  have hB01 : Below W0.heap.size W0 W1 := hb1.trans (hB1.mono hb1.size)
  obtain ⟨b4, hb4⟩ : ∃ b, b = w1.heap.size := ⟨_, rfl⟩
  have HE4 := hid hb4
  have hF1 : W1.heap[b4]? = some (.cells #[.string (S f.1), .string (S f.2)] 23) := by rw [hW1, hb4]; exact heap_alloc_new _ _
  obtain ⟨p0, p1, p2, p3, p4, p5⟩ := post_box (lm_next hB01 HP0.out)
  have HF1 := hid hF1
  have HB01 := hid hB01
  have HA3 := hid (HA2.out W1)
  clear hW1 hB1 hB01 hb1 hF1 hb4
  go_upto_region 2 with fail
  rw [← HWE1.out, ← HE4.out]
  clear p0 p1 p2
  go_wp2_with fail
  refine HA3.out.mono ?_
  rintro e w2 ⟨rfl, hb2⟩
  obtain ⟨b5, hb5⟩ : ∃ b, b = w2.heap.size := ⟨_, rfl⟩
  have HE5 := hid hb5
  obtain ⟨W2, hW2⟩ : ∃ W2, W2 = w2.alloc (.cells #[.string (S t.1), .string (S t.2)] 23) := ⟨_, rfl⟩
  have HWE2 := hid hW2
  have hB2 : Below w2.heap.size w2 W2 := by rw [hW2]; exact (Below.refl _ _).alloc (Nat.le_refl _) _
  have hB12 : Below W1.heap.size W1 W2 := hb2.trans (hB2.mono hb2.size)
  have hT2 : W2.heap[b5]? = some (.cells #[.string (S t.1), .string (S t.2)] 23) := by rw [hW2, hb5]; exact heap_alloc_new _ _
  obtain ⟨f0, f1⟩ := adr_box (lm_next hB12 HF1.out)
  obtain ⟨t0, t1⟩ := adr_box hT2
  have HT2 := hid hT2
  have HB02 := hid (HB01.out.trans (hB12.mono HB01.out.size))
  have HM1 := hid (mail_text f)
  have HM2 := hid (rcpt_text t)
  clear hW2 hB2 hB12 hb2 hT2 hb5 p3 p4 p5
  go_upto_region 3 with fail
  rw [← HWE2.out, ← HE5.out]
  go_upto_region 4 with fail
  rw [HM1.out, HM2.out]
  obtain ⟨b6, hb6⟩ : ∃ b, b = W2.heap.size := ⟨_, rfl⟩
  have HE6 := hid hb6
  obtain ⟨W3, hW3⟩ : ∃ W3, W3 = ((W2.alloc (.cells #[.string ⟨#[76, 72, 76, 79, 32, 120, 46, 121]⟩, .string (S (mailU ++ angA f)), .string (S (rcptL ++ angA t)), .string ⟨#[68, 65, 84, 65]⟩] 9)).alloc (.cells #[.int .i64 250, .int .i64 250, .int .i64 250, .int .i64 354] 3)).alloc (.cells #[.int .i64 0, .string ⟨#[]⟩, .string ⟨#[]⟩, .slice none 0 0, .string ⟨#[]⟩, .bool false] 26) := ⟨_, rfl⟩
  have HWE3 := hid hW3
  have hB3 : Below W2.heap.size W2 W3 := by rw [hW3]; exact (((Below.refl _ _).alloc (Nat.le_refl _) _).alloc (by simp) _).alloc (by simp; omega) _
  have HZ3 := hid (show W3.heap.size = b6 + 3 by rw [hW3, hb6]; simp)
  have hL3 : W3.heap[b6]? = some (.cells #[.string ⟨#[76, 72, 76, 79, 32, 120, 46, 121]⟩, .string (S (mailU ++ angA f)), .string (S (rcptL ++ angA t)), .string ⟨#[68, 65, 84, 65]⟩] 9) := by rw [hW3, hb6]; exact lm_up2 _ _ _
  have hC3 : W3.heap[b6 + 1]? = some (.cells #[.int .i64 250, .int .i64 250, .int .i64 250, .int .i64 354] 3) := by rw [hW3, hb6]; exact lm_up1 _ _ _
  have hS3 : SesB W3 (b6 + 2) (b6 + 3) (rdS f t 0) := ⟨none, 0, by rw [hW3, hb6]; exact lm_at2 _ _ _, World.ownsRow_nil _ _ _ _⟩
  have HL3 := hid (fun (k : Nat) (hk : k < 4) => show W3.cell? ⟨b6, k, none⟩ = some (.string (S (rdL f t k))) by
    obtain rfl | rfl | rfl | rfl : k = 0 ∨ k = 1 ∨ k = 2 ∨ k = 3 := by omega
    all_goals (simp [World.cell?, hL3]; first | rfl | done))
  have HC3 := hid (fun (k : Nat) (hk : k < 4) => show W3.cell? ⟨b6 + 1, k, none⟩ = some (.int .i64 (rdC k)) by
    obtain rfl | rfl | rfl | rfl : k = 0 ∨ k = 1 ∨ k = 2 ∨ k = 3 := by omega
    all_goals (simp [World.cell?, hC3]; first | rfl | done))
  have HS3 := hid hS3
  have HT3 := hid (lm_next hB3 HT2.out)
  have HB03 := hid (HB02.out.trans (hB3.mono HB02.out.size))
  have HN := hid (show b5 < b6 ∧ W0.heap.size ≤ b6 by
    rw [hb6]
    exact ⟨(Array.getElem?_eq_some_iff.1 HT2.out).1, HB02.out.size⟩)
  clear hb6 hW3 hB3 hL3 hC3 hS3 f0 f1 t0 t1 e1 e2 e3 e4
  go_upto_region 6 with fail
  rw [← HWE3.out, ← HE6.out]
  obtain ⟨b8, hb8⟩ : ∃ b, b = b6 + 1 + 1 := ⟨_, rfl⟩
  have HE8 := hid hb8
  rw [← hb8]
  rw [show b6 + 2 = b8 by rw [hb8], show b6 + 3 = b8 + 1 by rw [hb8]] at HS3
  have HN8 := hid (show b8 = b6 + 2 from hb8)
  clear hb8
  clear p0 p1 p2 p3 p4 p5
  go_wp2
  go_loopw [9] (fun i wr => ∃ k : Nat, k ≤ 4 ∧ i = .int .i64 k ∧ Hid (SesB wr (b8) (b8 + 1) (rdS f t k)) ∧ Hid (Below (b8) W3 wr)) (fun i _ => 4 - (intOf i).toNat)
  case atStart => exact ⟨0, Nat.zero_le _, rfl, HS3, Below.refl _ _⟩
  case round =>
    obtain ⟨k, hk, rfl, HS, HB⟩ := hrel
    have hn := HN.out
    have hn8 := HN8.out
    obtain ⟨sa, sk, hS, hO⟩ := HS.out
    have hlt : b8 < wr.heap.size := (Array.getElem?_eq_some_iff.1 hS).1
    obtain ⟨z0, z1, z2, z3, z4, z5⟩ := ses_box hS
    obtain ⟨y0, y1, y2, y3, y4, y5⟩ := ses_frz hS
    have HSX := hid hS
    by_cases h4 : k < 4
    · have k1 : (k : Int) < 4 := by omega
      have k0 : (0 : Int) ≤ (k : Int) := by omega
      have t0 : wr.cell? ⟨b5, 0, none⟩ = some (.string (S t.1)) := (adr_box (lm_low HB.out HT3.out (by omega))).1
      have l0 : wr.cell? ⟨b6, k, none⟩ = some (.string (S (rdL f t k))) := (HB.out.cell (p := ⟨b6, k, none⟩) (show b6 < b8 by omega)).trans (HL3.out k h4)
      have c0 : wr.cell? ⟨b6 + 1, k, none⟩ = some (.int .i64 (rdC k)) := (HB.out.cell (p := ⟨b6 + 1, k, none⟩) (show b6 + 1 < b8 by omega)).trans (HC3.out k h4)
      have HL := hid (rd_step HF.out HT.out k h4)
      have HM := hid (rd_may HF.out HT.out k hk)
      have HLE := hid (show (rdL f t k).length ≤ 140737488355328 by
        have h1 := angA_len HF.out
        have h2 := angA_len HT.out
        obtain rfl | rfl | rfl | rfl : k = 0 ∨ k = 1 ∨ k = 2 ∨ k = 3 := by omega
        all_goals simp [rdL, lhloXY, mailU, rcptL, dataU]
        all_goals omega)
      obtain ⟨s, hs⟩ : ∃ s, s = rdS f t k := ⟨_, rfl⟩
      obtain ⟨r, hr⟩ : ∃ r, r = rdS f t (k + 1) := ⟨_, rfl⟩
      obtain ⟨ln, hln⟩ : ∃ ln, ln = rdL f t k := ⟨_, rfl⟩
      obtain ⟨co, hco⟩ : ∃ co, co = rdC k := ⟨_, rfl⟩
      rw [← hs] at z0 z1 z2 z3 z4 z5 hO HSX HM
      rw [← hln] at l0 HLE
      rw [← hco] at c0
      rw [← hs, ← hr, ← hln, ← hco] at HL
      have HRE := hid hr
      have HOO := hid hO
      have HLN := hid (fun (u : World) (q : Nat) (hu : Below wr.heap.size wr u) (hq : u.heap[q]? = some (.cells #[.string (S t.1)] 9)) => line_ok (W := wr) HM.out HL.out (AdrsM.any ((own_next hO hu).row (by have := may_to HM.out; unfold maxLen; omega))) (own_roomy hO) (txt_one (c := 1) hq) HLE.out hu)
      have HC := hid (fun (u : World) (hu : Below wr.heap.size wr u) => show (u.cell? ⟨b8, 0, none⟩ = some (.int .i64 s.step) ∧ u.cell? ⟨b8, 1, none⟩ = some (.string (S s.frm.1)) ∧ u.cell? ⟨b8, 2, none⟩ = some (.string (S s.frm.2)) ∧ u.cell? ⟨b8, 3, none⟩ = some (.slice sa s.to.length sk) ∧ u.cell? ⟨b8, 4, none⟩ = some (.string (S s.text)) ∧ u.cell? ⟨b8, 5, none⟩ = some (.bool s.large) ∧ u.cell? ⟨b5, 0, none⟩ = some (.string (S t.1)) ∧ u.cell? ⟨b6, k, none⟩ = some (.string (S ln))) from ⟨wcell_next z0 hu, wcell_next z1 hu, wcell_next z2 hu, wcell_next z3 hu, wcell_next z4 hu, wcell_next z5 hu, wcell_next t0 hu, wcell_next l0 hu⟩)
      have HHL := hid hlt
      clear hS hO hn hn8 hs hr hln hco hlt
      go_wp2_with fail
      go_cut [10, 11, 12, 13] (fun vp vc vl ve wx => LnB wr r co [] vp vc vl ve wx)
      case first =>
        go_region_held3 (fun u => u.cell? ⟨b8, 0, none⟩ = some (.int .i64 s.step) ∧ u.cell? ⟨b8, 1, none⟩ = some (.string (S s.frm.1)) ∧ u.cell? ⟨b8, 2, none⟩ = some (.string (S s.frm.2)) ∧ u.cell? ⟨b8, 3, none⟩ = some (.slice sa s.to.length sk) ∧ u.cell? ⟨b8, 4, none⟩ = some (.string (S s.text)) ∧ u.cell? ⟨b8, 5, none⟩ = some (.bool s.large) ∧ u.cell? ⟨b5, 0, none⟩ = some (.string (S t.1)) ∧ u.cell? ⟨b6, k, none⟩ = some (.string (S ln)))
          (first | (refine HC.out _ ?_; (repeat (first | with_reducible exact HB8.out | with_reducible exact Below.refl _ _ | with_reducible refine Below.drew ?_ | with_reducible refine Below.alloc ?_ (by first | exact Nat.le_refl _ | exact HZ8.out | (simp <;> omega) | simp) _ | with_reducible refine Below.setCell ?_ (by first | exact Nat.le_refl _ | (simp <;> omega) | simp) _))) | fail)
          (first
            | (go_at_call 11
               refine (HLN.out _ _ ?_ ?_).mono ?_
               · repeat (first | exact Below.refl _ _ | refine Below.drew ?_ | refine Below.alloc ?_ (by first | exact Nat.le_refl _ | simp) _)
               · first | exact drew_at (lm_at0 _) | exact drew_at (lm_at1 _ _) | exact drew_at (lm_up0 _ _)
               rintro e w8 ⟨a8, k8, al, cl, rfl, ho8, ht8, hb8, hB8, hz8⟩
               have HO8 := hid ho8
               have HT8 := hid ht8
               have HB8 := hid hB8
               have HZ8 := hid hB8.size
               have HU8 := hid hz8
               first
                 | (have HK8 : Hid (w8.heap[wr.heap.size]? = some (.cells #[.int .i64 0, .string ⟨#[]⟩, .string ⟨#[]⟩, .slice none 0 0, .string ⟨#[]⟩, .bool false] 26)) := hid (lm_next hb8 (drew_at (lm_up0 _ _))); have hk8 := HK8.out; obtain ⟨g0, g1, g2, g3, g4, g5⟩ := ses_frz hk8; obtain ⟨x0, x1, x2, x3, x4, x5⟩ := ses_box hk8; clear hk8)
                 | (have HK8 : Hid (w8.heap[wr.heap.size + 1]? = some (.cells #[.int .i64 0, .string ⟨#[]⟩, .string ⟨#[]⟩, .slice none 0 0, .string ⟨#[]⟩, .bool false] 26)) := hid (lm_next hb8 (drew_at (lm_at1 _ _))); have hk8 := HK8.out; obtain ⟨g0, g1, g2, g3, g4, g5⟩ := ses_frz hk8; obtain ⟨x0, x1, x2, x3, x4, x5⟩ := ses_box hk8; clear hk8)
                 | skip
               clear ho8 ht8 hb8 hB8 hz8)
            | fail)
        all_goals
          first
            | (have HE := hid (LnB.old (c := co) HO8.out HT8.out HB8.out HU8.out (by first | exact Nat.le_refl _ | omega) (by first | (simp; done) | (simp; omega)) HK8.out)
               go_wp2_with fail
               go_meet
               exact HE.out)
            | (have HE := hid (LnB.new (c := co) HO8.out HT8.out HB8.out HU8.out)
               go_wp2_with fail
               go_meet
               exact HE.out)
            | fail
      case rest =>
        obtain ⟨P, al, cl, rfl, rfl, rfl, rfl, hP, ⟨ra, rk, hR, hRO⟩, hRT, hb⟩ := hcut
        have hl := HHL.out
        have c1 := wcell_next c0 hb
        have hX := lm_next hb HSX.out
        obtain ⟨q0, q1, q2, q3, q4, q5⟩ := ses_box hR
        obtain ⟨v0, v1, v2, v3, v4, v5⟩ := ses_frz hX
        obtain ⟨x0, x1, x2, x3, x4, x5⟩ := ses_box hX
        have HNS := hid (SesB.copy (B := b8 + 1) hX hRO hl hl)
        have HNB := hid (show Below (b8) W3 _ from (HB.out.trans (hb.mono (by omega))).trans (low7 wc (.int .i64 r.step) (.string (S r.frm.1)) (.string (S r.frm.2)) (.slice ra r.to.length rk) (.string (S r.text)) (.bool r.large) (Nat.le_refl _)))
        clear hR hRO hRT hb hP hX z0 z1 z2 z3 z4 z5 y0 y1 y2 y3 y4 y5 l0 t0 c0 hl
        go_wp2
        go_roundw
        case rel => exact ⟨k + 1, by omega, by simp, (by rw [← HRE.out]; exact HNS), HNB⟩
        case measure => simp [intOf]; omega
    · have k1 : ¬ (k : Int) < 4 := by omega
      obtain rfl : k = 4 := by omega
      have HSS := hid hO
      have HBF := hid (show Below w.heap.size w wr from HB0.out.trans ((HB03.out.trans (HB.out.mono (by omega))).mono HB0.out.size))
      have hz0 := HZ0.out
      have hRR : wr.heap[w.heap.size + 1]? = _ := lm_low HB.out (lm_low HB03.out HR0.out (by omega)) (by omega)
      obtain ⟨s, hs⟩ : ∃ s, s = rdS f t 4 := ⟨_, rfl⟩
      have h4s : (s.step == 4) = true := by rw [hs]; rfl
      rw [← hs] at z0 z1 z2 z3 z4 z5 HSS
      obtain ⟨q0, q1, q2, q3, q4, q5⟩ := ses_box hRR
      obtain ⟨v0, v1, v2, v3, v4, v5⟩ := ses_frz hRR
      have HRW := hid (six_put' (W := wr) (v0 := .int .i64 s.step) (v1 := .string (S s.frm.1)) (v2 := .string (S s.frm.2)) (v3 := .slice sa s.to.length sk) (v4 := .string (S s.text)) (v5 := .bool s.large) hRR)
      have hw1 : w.heap.size + 1 < b8 + 1 := by omega
      have hne1 : b8 ≠ w.heap.size + 1 := by omega
      have hne2 : w.heap.size + 1 ≠ b8 := by omega
      have HE := hid (show RdyP w (rdS f t 4) (.returned (.tuple #[.agg #[.int .i64 s.step, .string (S s.frm.1), .string (S s.frm.2), .slice sa s.to.length sk, .string (S s.text), .bool s.large], .bool true])) (outW wr (w.heap.size + 1) s (.slice sa s.to.length sk)).drew by
        rw [← hs]
        exact ⟨sa, sk, rfl, own_drew (own_from (own_low (own_low (own_low (own_low (own_low (own_low HSS.out hw1) hw1) hw1) hw1) hw1) hw1) (by omega)), (HBF.out.trans (low7 wr _ _ _ _ _ _ (Nat.le_succ _))).drew⟩)
      unfold outW at HE
      clear hS hO hn hn8 hs hRR hlt h4 hz0 HSX hw1 y0 y1 y2 y3 y4 y5
      go_wp2_with fail
      go_region_held3 (fun u => u.cell? ⟨b8, 0, none⟩ = some (.int .i64 s.step) ∧ u.cell? ⟨b8, 1, none⟩ = some (.string (S s.frm.1)) ∧ u.cell? ⟨b8, 2, none⟩ = some (.string (S s.frm.2)) ∧ u.cell? ⟨b8, 3, none⟩ = some (.slice sa s.to.length sk) ∧ u.cell? ⟨b8, 4, none⟩ = some (.string (S s.text)) ∧ u.cell? ⟨b8, 5, none⟩ = some (.bool s.large)) (go_keep) (fail)
      all_goals
        go_wp2
        obtain ⟨r0, r1, r2, r3, r4, r5⟩ := ses_box (drew_at HRW.out)
        clear q0 q1 q2 q3 q4 q5 v0 v1 v2 v3 v4 v5 z0 z1 z2 z3 z4 z5
        refine bodyPost_ret (v := .tuple #[.agg #[.int .i64 s.step, .string (S s.frm.1), .string (S s.frm.2), .slice sa s.to.length sk, .string (S s.text), .bool s.large], .bool true]) (by simp [results, Try.results18, go_sem, *]) rfl ?_
        exact HE.out
end Go.Proofs.Ytoiblibminhojaa
