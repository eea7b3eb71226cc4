/-
  What a session's commands do: the walks.
-/
import Derived.Test.YtmgdnhjemhhleaaGreatDoorOQPoCn10
set_option maxHeartbeats 4000000
set_option maxRecDepth 100000
namespace Go.Proofs.YtmgdnhjemhhleaaGreatDoor
open Go.RowKit Go.Proofs
theorem SesW.next {w w' : World} {b B : Nat} {s : Ses} {lv : Value} (h : SesW w b B s lv) (hb : Below w.heap.size w w') : SesW w' b B s lv := by
 obtain ⟨v, h1, h2⟩ := h; exact ⟨v, jR hb h1, jQ h2 hb⟩
theorem SB.lt {w : World} {b : Nat} {s : Ses} {v lv : Value} (h : SB w b s v lv) : b < w.heap.size := (Array.getElem?_eq_some_iff.1 h).1
theorem jeZ {n b : Nat} {w w' : World} {s : Ses} {v lv : Value} (h : SB w b s v lv) (hn : n ≤ b) (hb : Below w.heap.size w w') : Below n w w' := hb.mono (by have := h.lt; omega)
theorem jit (n b B : Nat) (t : List UInt8) (s : Ses) (lv : Value) (w : World) (h : SesW w b B s lv) (hn : n ≤ b) (ht : t.length ≤ 2000) :
 Calls Tryz.prog 141 #[.pointer (some ⟨b, 0, none⟩), .string (S t)] w (ObP n b B w (jay s t) lv) := by
 obtain ⟨v, hs, ho⟩ := h; have HK := hid (zR ⟨#[120]⟩ (S t) w (by decide) (by rw [jd]; omega)); rw [jj] at HK; have HZ3 := hid (jai [120] t); have HG := hid (show jay s t = if jS [120] t = 0 then (atS 1, 250) else (s, 501) by unfold jay qr; by_cases h : jS [120] t = 0 <;> simp [h]); have e120 : (⟨#[120]⟩ : ByteArray).data.toList = [120] := rfl; rw [e120] at HK; clear e120; obtain ⟨z, hz⟩ : ∃ z, z = jS [120] t := ⟨_, rfl⟩; rw [← hz] at HK HZ3 HG; have HS := hid hs; have HO := hid ho; clear hz hs ho ht; go_enter Tryz.func141, Tryz.ntmps141; go_wp2_with fail; refine HK.out.mono ?_; rintro e u ⟨rfl, hb⟩; have HB := hid (jeZ HS.out hn hb); have HS2 := hid (jR hb HS.out); have HO2 := hid (jQ HO.out hb); clear hb
 rcases HZ3.out with rfl | rfl | rfl
 · have HBC := hid (jaU n b B 1 s v lv u HS2.out hn); go_wp2_with fail; refine HBC.out.mono ?_; rintro e u2 ⟨rfl, hw, hb2⟩; have HE := hid (show ObP n b B w (jay s t) lv (.returned (.int .i64 250)) u2 by rw [HG.out]; exact ⟨rfl, hw, HB.out.trans hb2⟩); clear hw hb2; go_wp2; go_ret; exact HE.out
 · have HE := hid (show ObP n b B w (jay s t) lv (.returned (.int .i64 501)) u by rw [HG.out]; exact ⟨rfl, ⟨v, HS2.out, HO2.out⟩, HB.out⟩); go_wp2; go_ret; exact HE.out
 · have HE := hid (show ObP n b B w (jay s t) lv (.returned (.int .i64 501)) u by rw [HG.out]; exact ⟨rfl, ⟨v, HS2.out, HO2.out⟩, HB.out⟩); go_wp2; go_ret; exact HE.out
theorem jdh (n b B : Nat) (s : Ses) (lv : Value) (w : World) (h : SesW w b B s lv) (hn : n ≤ b) :
 Calls Tryz.prog 181 #[.pointer (some ⟨b, 0, none⟩)] w (ObP n b B w (jdo s) lv) := by
 obtain ⟨v, hs, ho⟩ := h; obtain ⟨⟨x0, x1, x2, x3, x4, x5, x6⟩, hfz⟩ := zx hs; have f0 := hfz 0; obtain ⟨k, hk⟩ : ∃ k, k = s.step := ⟨_, rfl⟩; rw [← hk] at x0
 by_cases h3 : k = 3
 · subst h3; have HE := hid (show ObP n b B w (jdo s) lv (.returned (.int .i64 354)) (w.setCell ⟨b, 0, none⟩ (.int .i64 4)) by
    unfold jdo; rw [if_pos hk.symm]; refine ⟨rfl, ⟨v, ?_, zD ho hs⟩, (Below.refl _ _).setCell (p := ⟨b, 0, none⟩) hn _⟩; have := j5 (j := 0) (u := .int .i64 4) hs; simp only [List.setIfInBounds_toArray, List.set_cons_zero] at this; exact this)
   clear hs ho hfz hk; go_enter Tryz.func181, Tryz.ntmps181; go_wp2; go_ret; exact HE.out
 · have HE := hid (show ObP n b B w (jdo s) lv (.returned (.int .i64 503)) w by
    unfold jdo; rw [if_neg (by rw [← hk]; exact h3)]; exact ⟨rfl, ⟨v, hs, ho⟩, Below.refl _ _⟩)
   clear hs ho hfz hk; go_enter Tryz.func181, Tryz.ntmps181; go_wp2; go_ret; exact HE.out
theorem jje (n b B : Nat) (s : Ses) (lv : Value) (w : World) (h : SesW w b B s lv) (hn : n ≤ b) :
 Calls Tryz.prog 182 #[.pointer (some ⟨b, 0, none⟩)] w (DoP' n b B w (jdG s) lv) := by
 obtain ⟨v, hs, ho⟩ := h; obtain ⟨⟨x0, x1, x2, x3, x4, x5, x6⟩, hfz⟩ := zx hs; have HBC := hid (jaU n b B 1 s v lv w hs hn); obtain ⟨k, hk⟩ : ∃ k, k = s.step := ⟨_, rfl⟩; rw [← hk] at x0
 by_cases h0 : k = 0
 · have HE := hid (show DoP' n b B w (jdG s) lv (.returned (.tuple #[])) w by
    unfold jdG; rw [if_pos (by rw [← hk]; exact h0)]; exact ⟨rfl, ⟨v, hs, ho⟩, Below.refl _ _⟩)
   subst h0; clear hs ho hfz hk; go_enter Tryz.func182, Tryz.ntmps182; go_wp2; go_end0; exact HE.out
 · have HG := hid (show jdG s = atS 1 by unfold jdG; rw [if_neg (by rw [← hk]; exact h0)]); clear hs ho hfz hk; go_enter Tryz.func182, Tryz.ntmps182; go_wp2_with fail; refine HBC.out.mono ?_; rintro e u2 ⟨rfl, hw, hb2⟩; have HE := hid (show DoP' n b B w (jdG s) lv (.returned (.tuple #[])) u2 by rw [HG.out]; exact ⟨rfl, hw, hb2⟩); clear hw hb2; go_wp2; go_end0; exact HE.out
theorem jdI (n b B : Nat) (t : List UInt8) (s : Ses) (lv : Value) (w : World) (h : SesW w b B s lv) (hn : n ≤ b) (ht : t.length ≤ 2000) :
 Calls Tryz.prog 142 #[.pointer (some ⟨b, 0, none⟩), .string (S t)] w (ObP n b B w (jcw s t) lv) := by
 obtain ⟨v, hs, ho⟩ := h; obtain ⟨⟨x0, x1, x2, x3, x4, x5, x6⟩, hfz⟩ := zx hs; have HA := hid (jaq t w ht); obtain ⟨k, hk⟩ : ∃ k, k = s.step := ⟨_, rfl⟩; rw [← hk] at x0
 by_cases h1 : k = 1
 · have HG := hid (show jcw s t = jiQ s (jaT t) by unfold jcw; rw [if_pos (by rw [← hk]; exact h1)]); subst h1; obtain ⟨A, hA⟩ : ∃ A, A = jaT t := ⟨_, rfl⟩; rw [← hA] at HA HG; have HS := hid hs; have HO := hid ho; clear hs ho hfz hk hA; go_enter Tryz.func142, Tryz.ntmps142; go_wp2_with fail; refine HA.out.mono ?_; rintro e u ⟨rfl, hb⟩; have HB := hid (jeZ HS.out hn hb); have HS2 := hid (jR hb HS.out); have HO2 := hid (jQ HO.out hb); have HNU := hid (show n ≤ u.heap.size from Nat.le_trans (Nat.le_trans hn (Nat.le_of_lt (SB.lt HS.out))) hb.size); clear hb x0 x1 x2 x3 x4 x5 x6; cases A with
   | none =>
     simp only [jiH]; have HE := hid (show ObP n b B w (jcw s t) lv (.returned (.int .i64 501)) (u.alloc (.cells #[.string ⟨#[]⟩, .string ⟨#[]⟩] 76)) by
        have hq : Below u.heap.size u (u.alloc (.cells #[.string ⟨#[]⟩, .string ⟨#[]⟩] 76)) := nb0 _ _; rw [HG.out]; exact ⟨rfl, ⟨v, jR hq HS2.out, jQ HO2.out hq⟩, HB.out.trans (hq.mono HNU.out)⟩)
     go_wp2; go_ret; exact HE.out
   | some a =>
     simp only [jiH]; obtain ⟨W3, hW3⟩ : ∃ W3, W3 = u.alloc (.cells #[.string (S a.1), .string (S a.2)] 76) := ⟨_, rfl⟩; have HWE3 := hid hW3; have hq : Below u.heap.size u W3 := by rw [hW3]; exact nb0 _ _
     have hS3 : SB W3 b s v lv := jR hq HS2.out; have hO3 := jQ HO2.out hq; obtain ⟨⟨y0, y1, y2, y3, y4, y5, y6⟩, hgz⟩ := zx hS3; have g0 := hgz 0; have g1 := hgz 1; have g2 := hgz 2; obtain ⟨m0, m1⟩ := qB (show W3.heap[u.heap.size]? = some (.cells #[.string (S a.1), .string (S a.2)] 76) by rw [hW3]; exact heap_alloc_new u _); have HE := hid (show ObP n b B w (jcw s t) lv (.returned (.int .i64 250)) (((W3.setCell ⟨b, 1, none⟩ (.string (S a.1))).setCell ⟨b, 2, none⟩ (.string (S a.2))).setCell ⟨b, 0, none⟩ (.int .i64 2)) by
        rw [HG.out]; have h1 := j5 (j := 1) (u := .string (S a.1)) hS3; have h2 := j5 (j := 2) (u := .string (S a.2)) h1; have h3 := j5 (j := 0) (u := .int .i64 2) h2; simp only [List.setIfInBounds_toArray, List.set_cons_zero, List.set_cons_succ] at h3; refine ⟨rfl, ⟨v, h3, zD (zD (zD hO3 hS3) h1) h2⟩, ?_⟩; exact (((HB.out.trans (hq.mono HNU.out)).setCell (p := ⟨b, 1, none⟩) hn _).setCell (p := ⟨b, 2, none⟩) hn _).setCell (p := ⟨b, 0, none⟩) hn _)
     clear hW3 hq hS3 hO3 hgz; go_upto_region 4 with fail
     rw [← HWE3.out]; go_wp2; go_ret; exact HE.out
 · have HE := hid (show ObP n b B w (jcw s t) lv (.returned (.int .i64 503)) w by
    unfold jcw; rw [if_neg (by rw [← hk]; exact h1)]; exact ⟨rfl, ⟨v, hs, ho⟩, Below.refl _ _⟩)
   clear hs ho hfz hk; go_enter Tryz.func142, Tryz.ntmps142; go_wp2; go_ret; exact HE.out
theorem jlF {w : World} {B b : Nat} {v : Value} {l : List Adr} {cs : Array Value} (h : OwnL w B v l) (hb : w.heap[b]? = some (.cells cs 179)) : some b ≠ v.ownBlock := by
 rcases h.2 with ⟨rfl, _⟩ | ⟨g, cap, cur, rfl, hB, hg, hr⟩
 · simp [Value.ownBlock]
 · intro e
   simp [Value.ownBlock] at e
   rw [← e, hb] at hg
   simp at hg
theorem jmi {w : World} {B : Nat} {v : Value} {l : List Adr} (h : OwnL w B v l) : ∀ k, v.ownBlock = some k → B ≤ k := by
 intro k hk
 rcases h.2 with ⟨rfl, _⟩ | ⟨g, cap, cur, rfl, hB, hg, hr⟩
 · simp [Value.ownBlock] at hk
 · simp [Value.ownBlock] at hk
   omega
theorem jga (w : World) (x y : Value) (t : TypeId) (H : Nat) (hH : w.heap.size = H) : ∀ (j : Nat) u, [x, y][j]? = some u → (w.alloc (.cells #[x, y] t)).cell? ((⟨H, 0, none⟩ : Addr).add j) = some u := by
 intro j u hj; subst hH; rw [Addr.add_lit, Nat.zero_add]
 match j, hj with
 | 0, hj => simp at hj; subst hj; simp
 | 1, hj => simp at hj; subst hj; simp
theorem jkh {n b B gm cap : Nat} {w W WA w5 : World} {s : Ses} {v lv : Value} {a : Adr} (hs : SB W b s v lv) (ho : OwnL W B v s.to) (hn : n ≤ b) (hB : n ≤ B) (h0 : Below n w W) (hWA : Below W.heap.size W WA) (hg : WA.grownBy w5 v.ownBlock)
 (hown : w5.ownsRow B 76 2 (.slice (some ⟨gm, 0, none⟩) (s.to.length + 1) cap) (s.to.length + 1) (qd s.to ++ [.string (S a.1), .string (S a.2)])) :
 SesW ((w5.setCell ⟨b, 3, none⟩ (.slice (some ⟨gm, 0, none⟩) (s.to.length + 1) cap)).setCell ⟨b, 0, none⟩ (.int .i64 3)) b B ⟨3, s.frm, s.to ++ [a], s.text, s.large⟩ lv ∧
  Below n w ((w5.setCell ⟨b, 3, none⟩ (.slice (some ⟨gm, 0, none⟩) (s.to.length + 1) cap)).setCell ⟨b, 0, none⟩ (.int .i64 3)) := by
 have hlt := SB.lt hs; have hbA : WA.heap[b]? = _ := jR hWA hs; have hb5 : w5.heap[b]? = _ := (hg.block b (Nat.lt_of_lt_of_le hlt hWA.size) (jlF ho hs)).trans hbA; have h1 := j5 (j := 3) (u := .slice (some ⟨gm, 0, none⟩) (s.to.length + 1) cap) hb5; have h2 := j5 (j := 0) (u := .int .i64 3) h1; simp only [List.setIfInBounds_toArray, List.set_cons_zero, List.set_cons_succ] at h2; have hO : OwnL w5 B (.slice (some ⟨gm, 0, none⟩) (s.to.length + 1) cap) (s.to ++ [a]) := by
  unfold OwnL; rw [je8, List.length_append]; exact hown
 refine ⟨⟨_, h2, zD (zD hO hb5) h1⟩, ?_⟩; have hbl : Below n w w5 := (h0.trans (hWA.mono (by omega))).grown hg (by have := h0.size; have := hWA.size; omega) (fun k hk => Nat.le_trans hB (jmi ho k hk)); exact (hbl.setCell (p := ⟨b, 3, none⟩) hn _).setCell (p := ⟨b, 0, none⟩) hn _
theorem jeW (n b B : Nat) (t : List UInt8) (known : List (List UInt8)) (kv : Value) (s : Ses) (lv : Value) (w : World) (h : SesW w b B s lv) (hn : n ≤ b) (hB : n ≤ B) (ht : t.length ≤ 2000) (hk : TxtsM (· < n) w kv known) (h5 : s.to.length ≤ 1000) (hBw : B ≤ w.heap.size) :
 Calls Tryz.prog 143 #[.pointer (some ⟨b, 0, none⟩), .string (S t), kv] w (ObP n b B w (jaH s known t) lv) := by
 obtain ⟨ak, ck, rfl⟩ : ∃ a c, kv = .slice a known.length c := by obtain ⟨a, c, h, _⟩ := hk; exact ⟨a, c, h⟩
 obtain ⟨v, hs, ho⟩ := h; obtain ⟨av, cv, rfl⟩ := ho.slice; obtain ⟨⟨x0, x1, x2, x3, x4, x5, x6⟩, hfz⟩ := zx hs; have HA := hid (jaq t w ht); have HH := hid hk; have HS := hid hs; have HO := hid ho; obtain ⟨k, hk2⟩ : ∃ k, k = s.step := ⟨_, rfl⟩; rw [← hk2] at x0
 by_cases h23 : s.step = 2 ∨ s.step = 3
 · have HG := hid (show jaH s known t = jge s known (jaT t) by unfold jaH; rw [if_pos h23]); rw [← hk2] at h23; obtain ⟨A, hA⟩ : ∃ A, A = jaT t := ⟨_, rfl⟩; rw [← hA] at HA HG; have h5' : (s.to.length : Int) ≤ 1000 := by omega
   obtain ⟨i0, hi', hz0, hz1, hz2⟩ := info_parts jf6; clear hs ho hfz hk2 hA hk
   rcases h23 with rfl | rfl
   all_goals
    go_enter Tryz.func143, Tryz.ntmps143; go_wp2_with fail; refine HA.out.mono ?_; rintro e u ⟨rfl, hb⟩; have HB := hid (jeZ HS.out hn hb); have HS2 := hid (jR hb HS.out); have HO2 := hid (jQ HO.out hb); have HNU := hid (show n ≤ u.heap.size from Nat.le_trans (Nat.le_trans hn (Nat.le_of_lt (SB.lt HS.out))) hb.size); clear hb x0 x1 x2 x3 x4 x5 x6; cases A with
    | none =>
      simp only [jiH]; have HE := hid (show ObP n b B w (jaH s known t) lv (.returned (.int .i64 501)) (u.alloc (.cells #[.string ⟨#[]⟩, .string ⟨#[]⟩] 76)) by
       have hq : Below u.heap.size u (u.alloc (.cells #[.string ⟨#[]⟩, .string ⟨#[]⟩] 76)) := nb0 _ _; rw [HG.out]; exact ⟨rfl, ⟨_, jR hq HS2.out, jQ HO2.out hq⟩, HB.out.trans (hq.mono HNU.out)⟩)
      go_wp2; go_ret; exact HE.out
    | some a =>
      simp only [jiH]; obtain ⟨W3, hW3⟩ : ∃ W3, W3 = u.alloc (.cells #[.string (S a.1), .string (S a.2)] 76) := ⟨_, rfl⟩; have HWE3 := hid hW3; have hq : Below u.heap.size u W3 := by rw [hW3]; exact nb0 _ _
      have HS3 := hid (show SB W3 b s (.slice av s.to.length cv) lv from jR hq HS2.out); have HO3 := hid (jQ HO2.out hq); have HB3 := hid (show Below n w W3 from HB.out.trans (hq.mono HNU.out)); have hX3 : W3.heap[u.heap.size]? = some (.cells #[.string (S a.1), .string (S a.2)] 76) := by rw [hW3]; exact heap_alloc_new u _
      have HX3 := hid hX3; obtain ⟨m0, m1⟩ := qB hX3; have HCT := hid (jaw (· < n) known a.1 ak ck W3 (HH.out.nextB HB3.out)); obtain ⟨q, hq1⟩ : ∃ q, q = known.contains a.1 := ⟨_, rfl⟩; have HG1 := hid (show jge s known (some a) = if q = false then (s, 550) else if s.to.contains a then (s, 250) else if 5 ≤ s.to.length then (s, 452) else (⟨3, s.frm, s.to ++ [a], s.text, s.large⟩, 250) by rw [hq1]; rfl); rw [← hq1] at HCT; clear hW3 hq hX3 hq1 HS2 HO2 HB HNU; go_upto_region 4 with fail
      rw [← HWE3.out]; go_wp2_with fail; refine HCT.out.mono ?_; rintro e W4 ⟨rfl, hb4⟩; have HS4 := hid (show SB W4 b s (.slice av s.to.length cv) lv from jR hb4 HS3.out); have HO4 := hid (jQ HO3.out hb4); have HB4 := hid (show Below n w W4 from HB3.out.trans (hb4.mono (Nat.le_trans hn (Nat.le_of_lt (SB.lt HS3.out))))); have HX4 := hid (jR hb4 HX3.out); clear hb4 m0 m1; cases q with
      | false =>
        have HE := hid (show ObP n b B w (jaH s known t) lv (.returned (.int .i64 550)) W4 by rw [HG.out, HG1.out]; exact ⟨rfl, ⟨_, HS4.out, HO4.out⟩, HB4.out⟩); go_wp2; go_ret; exact HE.out
      | true =>
        obtain ⟨⟨y0, y1, y2, y3, y4, y5, y6⟩, hgz⟩ := zx HS4.out; obtain ⟨m0, m1⟩ := qB HX4.out; have HCA := hid (fun u (hu : Below W4.heap.size W4 u) => jav (B ≤ ·) s.to a av cv u ((jQ HO4.out hu).row (by unfold maxLen; omega))); obtain ⟨r, hr⟩ : ∃ r, r = s.to.contains a := ⟨_, rfl⟩; rw [← hr] at HCA HG1; clear hr hgz; go_upto_region 8 with fail
        go_cut [37] (fun c wx => c = .bool r ∧ Below W4.heap.size W4 wx)
        case first =>
           go_region_held3 (fun w' => w'.cell? ⟨b, 3, none⟩ = some (.slice av s.to.length cv) ∧ w'.cell? ⟨u.heap.size, 0, none⟩ = some (.string (S a.1)) ∧ w'.cell? ⟨u.heap.size, 1, none⟩ = some (.string (S a.2))) (go_keep)
            (first
              | (go_at_call 179
                 with_reducible refine (HCA.out W4.drew ((Below.refl _ _).drew)).mono ?_
                 rintro e w5 ⟨rfl, hb⟩; have hb2 : Below W4.heap.size W4 w5 := (Below.refl _ _).drew.trans hb; have HB5 := hid hb2; have k0 := ja y3 hb2; have k1 := ja m0 hb2; have k2 := ja m1 hb2; clear hb hb2)
              | fail)
           all_goals
            go_wp2_with fail
            go_meet
            exact ⟨by first | rfl | simp, HB5.out⟩
        case rest =>
           obtain ⟨rfl, hb⟩ := hcut; have HS6 := hid (show SB wc b s (.slice av s.to.length cv) lv from jR hb HS4.out); have HO6 := hid (jQ HO4.out hb); have HB6 := hid (show Below n w wc from HB4.out.trans (hb.mono (Nat.le_trans hn (Nat.le_of_lt (SB.lt HS4.out))))); have HX6 := hid (jR hb HX4.out); clear hb y0 y1 y2 y3 y4 y5 y6 m0 m1; cases r with
           | true =>
             have HE := hid (show ObP n b B w (jaH s known t) lv (.returned (.int .i64 250)) wc by rw [HG.out, HG1.out]; exact ⟨rfl, ⟨_, HS6.out, HO6.out⟩, HB6.out⟩); go_wp2; go_ret; exact HE.out
           | false =>
             obtain ⟨⟨y0, y1, y2, y3, y4, y5, y6⟩, hgz⟩ := zx HS6.out; obtain ⟨m0, m1⟩ := qB HX6.out; have g0 := hgz 0; have g3 := hgz 3; clear hgz
             by_cases h55 : 5 ≤ s.to.length
             · have h56 : (5 : Int) ≤ (s.to.length : Int) := by omega
               have HE := hid (show ObP n b B w (jaH s known t) lv (.returned (.int .i64 452)) wc by rw [HG.out, HG1.out, if_neg (by simp), if_neg (by simp), if_pos h55]; exact ⟨rfl, ⟨_, HS6.out, HO6.out⟩, HB6.out⟩); go_wp2; go_ret; exact HE.out
             · have h56 : ¬ (5 : Int) ≤ (s.to.length : Int) := by omega
               have HG2 := hid (show jaH s known t = (⟨3, s.frm, s.to ++ [a], s.text, s.large⟩, 250) by rw [HG.out, HG1.out, if_neg (by simp), if_neg (by simp), if_neg h55]); have HBB := hid (SB.lt HS6.out); have HBW := hid (show B ≤ wc.heap.size from Nat.le_trans hBw HB6.out.size); have HNE := hid (jlF HO6.out HS6.out); have HLEN := hid (qf s.to); have y3a : ∀ o : Obj, (wc.alloc o).cell? ⟨b, 3, none⟩ = some (.slice av s.to.length cv) := fun o => jy y3 o
               have m0a : ∀ o : Obj, (wc.alloc o).cell? ⟨u.heap.size, 0, none⟩ = some (.string (S a.1)) := fun o => jy m0 o
               have m1a : ∀ o : Obj, (wc.alloc o).cell? ⟨u.heap.size, 1, none⟩ = some (.string (S a.2)) := fun o => jy m1 o
               clear h55; go_wp2
               go_region_law
                (first
                   | (refine step_append_lies _ (by rfl) _ _ _ (by rfl) B 76 i0 _ 2 32 Tryz.underlying77 hi' hz0 hz1 hz2 rfl (by omega) (.slice av s.to.length cv) s.to.length (qd s.to) (by rfl) (by first | exact World.ownsRow.alloc (show World.ownsRow wc.drew _ _ _ _ _ _ from HO6.out) _ | exact (World.ownsRow.alloc HO6.out _).drew)
                        ⟨wc.heap.size, 0, none⟩ 1 1 [.string (S a.1), .string (S a.2)] (by rfl) (by rfl) (by first | exact jga wc.drew _ _ _ _ rfl | exact jga wc _ _ _ _ rfl) (by simp [Value.oneCell']) (by omega) (by unfold maxLen; omega) (by omega) (by have := HBW.out; simp; omega) _ rfl ?_
                      intro gm cap w5 hown5 hgrow hat hlt5; have z3 := hgrow.cell (a := ⟨b, 3, none⟩) (jy (w := wc.drew) y3 _) HNE.out; have z0 := hgrow.cell (a := ⟨b, 0, none⟩) (jy (w := wc.drew) y0 _) HNE.out; have HWA := hid (show Below wc.heap.size wc (wc.drew.alloc (.cells #[.string (S a.1), .string (S a.2)] 76)) from (Below.refl _ wc).drew.alloc (Nat.le_refl _) _); have hb5 := (hgrow.block b (Nat.lt_of_lt_of_le HBB.out HWA.out.size) HNE.out).trans (jR HWA.out HS6.out); have zf3 := jcW hb5 3; have zf0 := jcW hb5 0; have HEN := hid (jkh HS6.out HO6.out hn hB HB6.out HWA.out hgrow hown5); clear hown5 hgrow hat hb5)
                   | fail)
               all_goals
                have HF := hid (show ObP n b B w (jaH s known t) lv (.returned (.int .i64 250)) ((w5.setCell ⟨b, 3, none⟩ (.slice (some ⟨gm, 0, none⟩) (s.to.length + 1) cap)).setCell ⟨b, 0, none⟩ (.int .i64 3)) by rw [HG2.out]; exact ⟨rfl, HEN.out.1, HEN.out.2⟩); go_wp2; go_ret; exact HF.out
 · have HE := hid (show ObP n b B w (jaH s known t) lv (.returned (.int .i64 503)) w by
    unfold jaH; rw [if_neg h23]; exact ⟨rfl, ⟨_, hs, ho⟩, Below.refl _ _⟩)
   rw [← hk2] at h23; have h2 : (k != 2) = true := by simp; omega
   have h3 : (k != 3) = true := by simp; omega
   clear hs ho hfz hk2 h23; go_enter Tryz.func143, Tryz.ntmps143; go_wp2; go_ret; exact HE.out
def ltrC (x : Ltr) : List Value := [.string (S x.1.1), .string (S x.1.2), .string (S x.2.1.1), .string (S x.2.1.2), .string (S x.2.2)]
def zX (l : List Ltr) : List Value := (l.map ltrC).flatten
def LOwnT (w : World) (B : Nat) (v : Value) (l : List Ltr) : Prop := w.ownsRow B 183 5 v l.length (zX l)
def LtrM (x : Ltr) (cs : List Value) : Prop := cs = ltrC x
def LtrsM (Q : Nat → Prop) (w : World) (v : Value) (l : List Ltr) : Prop := RowM Q 5 LtrM w v l
theorem jei (l : List Ltr) (x : Ltr) : zX (l ++ [x]) = zX l ++ ltrC x := by simp [zX]
theorem jfh {l : List Ltr} {i : Nat} {x : Ltr} (h : l[i]? = some x) (j : Nat) (hj : j < 5) : (zX l)[i * 5 + j]? = (ltrC x)[j]? := by
 induction l generalizing i with
 | nil => simp at h
 | cons g l ih =>
   have hl : (ltrC g).length = 5 := rfl; cases i with
   | zero =>
     simp at h
     subst h; simp only [zX, List.map_cons, List.flatten_cons]; rw [List.getElem?_append_left (by rw [hl]; omega)]
     simp
   | succ i =>
     have := ih (i := i) (by simpa using h); simp only [zX, List.map_cons, List.flatten_cons]; rw [List.getElem?_append_right (by rw [hl]; omega), hl, show (i + 1) * 5 + j - 5 = i * 5 + j by omega]; exact this
theorem LOwnT.slice {w : World} {B : Nat} {v : Value} {l : List Ltr} (h : LOwnT w B v l) : ∃ a c, v = .slice a l.length c := by
 rcases h.2 with ⟨rfl, hn⟩ | ⟨g, cap, cur, rfl, _⟩
 · exact ⟨none, 0, by rw [hn]⟩
 · exact ⟨_, _, rfl⟩
theorem LOwnT.row {w : World} {B : Nat} {v : Value} {l : List Ltr} (h : LOwnT w B v l) (hm : l.length ≤ maxLen) : LtrsM (B ≤ ·) w v l := by
 obtain ⟨a, c, rfl⟩ := h.slice; refine ⟨a, c, rfl, hm, fun i x hx => ?_⟩; have hi : i < l.length := (List.getElem?_eq_some_iff.1 hx).1; obtain ⟨g, cap, e, hb, hg⟩ := World.ownsRow.form h (by omega); simp only [Value.slice.injEq, true_and] at e; obtain ⟨rfl, rfl⟩ := e; refine ⟨g, 0, ltrC x, rfl, hg, hb, rfl, ?_, rfl⟩; intro j u hj; have hj5 : j < 5 := (List.getElem?_eq_some_iff.1 hj).1; rw [Nat.zero_add, World.ownsRow.cellAt h (i * 5 + j) (by omega), jfh hx j hj5]; exact hj
theorem LOwnT.nil (w : World) (B : Nat) : LOwnT w B (.slice none 0 0) [] := World.ownsRow_nil _ _ _ _
theorem jeq {w w' : World} {B : Nat} {v : Value} {l : List Ltr} (h : LOwnT w B v l) (hb : Below w.heap.size w w') : LOwnT w' B v l := by
 unfold LOwnT at *; refine ⟨h.1, ?_⟩
 rcases h.2 with h' | ⟨g, cap, cur, hv, hB, hg, hr⟩
 · exact .inl h'
 · exact .inr ⟨g, cap, cur, hv, hB, (hb.block g (Array.getElem?_eq_some_iff.1 hg).1).trans hg, hr⟩
theorem jhm {w : World} {B b j : Nat} {v u : Value} {l : List Ltr} {cs : Array Value} (h : LOwnT w B v l) (hb : w.heap[b]? = some (.cells cs 179)) : LOwnT (w.setCell ⟨b, j, none⟩ u) B v l := by
 unfold LOwnT at *; refine ⟨h.1, ?_⟩
 rcases h.2 with h' | ⟨g, cap, cur, hv, hB, hg, hr⟩
 · exact .inl h'
 · refine .inr ⟨g, cap, cur, hv, hB, ?_, hr⟩; have hne : g ≠ b := fun e => by rw [e, hb] at hg; simp at hg
   exact (Below.heap_setCell _ _ _ _ hne).trans hg
theorem ji0 {w : World} {B b : Nat} {v : Value} {l : List Ltr} {cs : Array Value} (h : LOwnT w B v l) (hb : w.heap[b]? = some (.cells cs 179)) : some b ≠ v.ownBlock := by
 rcases h.2 with ⟨rfl, _⟩ | ⟨g, cap, cur, rfl, hB, hg, hr⟩
 · simp [Value.ownBlock]
 · intro e
   simp [Value.ownBlock] at e
   rw [← e, hb] at hg
   simp at hg
theorem jiY {w : World} {B : Nat} {v : Value} {l : List Ltr} (h : LOwnT w B v l) : ∀ k, v.ownBlock = some k → B ≤ k := by
 intro k hk
 rcases h.2 with ⟨rfl, _⟩ | ⟨g, cap, cur, rfl, hB, hg, hr⟩
 · simp [Value.ownBlock] at hk
 · simp [Value.ownBlock] at hk
   omega
theorem ji2 {w WA w5 : World} {B H : Nat} {v lv : Value} {l : List Adr} {ls : List Ltr} (h : OwnL w B v l) (ht : LOwnT w H lv ls) (hWA : Below w.heap.size w WA) (hg : WA.grownBy w5 lv.ownBlock) : OwnL w5 B v l := by
 unfold OwnL at *; refine ⟨h.1, ?_⟩
 rcases h.2 with h' | ⟨g, cap, cur, hv, hB, hgg, hr⟩
 · exact .inl h'
 · refine .inr ⟨g, cap, cur, hv, hB, ?_, hr⟩; have hlt := (Array.getElem?_eq_some_iff.1 hgg).1; have hne : some g ≠ lv.ownBlock := by
    rcases ht.2 with ⟨rfl, _⟩ | ⟨g', cap', cur', rfl, hB', hg', hr'⟩
    · simp [Value.ownBlock]
    · intro e
      simp [Value.ownBlock] at e
      rw [← e, hgg] at hg'
      simp at hg'
   exact (hg.block g (Nat.lt_of_lt_of_le hlt hWA.size) hne).trans ((hWA.block g hlt).trans hgg)
theorem jm4 : (Tryz.prog.info? 183).map (fun i => (i.zero, i.size, i.bytes)) = some (some (.agg #[.string ByteArray.empty, .string ByteArray.empty, .string ByteArray.empty, .string ByteArray.empty, .string ByteArray.empty]), 5, 80) := by kernel_rfl
theorem jki {n b B H gm cap : Nat} {w W WA w5 : World} {s : Ses} {v lv : Value} {ls : List Ltr} {x : Ltr} (hs : SB W b s v lv) (ho : OwnL W B v s.to) (ht : LOwnT W H lv ls) (hn : n ≤ b) (hH : n ≤ H) (h0 : Below n w W) (hWA : Below W.heap.size W WA) (hg : WA.grownBy w5 lv.ownBlock)
 (hown : w5.ownsRow H 183 5 (.slice (some ⟨gm, 0, none⟩) (ls.length + 1) cap) (ls.length + 1) (zX ls ++ ltrC x)) :
 SB (w5.setCell ⟨b, 6, none⟩ (.slice (some ⟨gm, 0, none⟩) (ls.length + 1) cap)) b s v (.slice (some ⟨gm, 0, none⟩) (ls.length + 1) cap) ∧
  OwnL (w5.setCell ⟨b, 6, none⟩ (.slice (some ⟨gm, 0, none⟩) (ls.length + 1) cap)) B v s.to ∧
  LOwnT (w5.setCell ⟨b, 6, none⟩ (.slice (some ⟨gm, 0, none⟩) (ls.length + 1) cap)) H (.slice (some ⟨gm, 0, none⟩) (ls.length + 1) cap) (ls ++ [x]) ∧
  Below n w (w5.setCell ⟨b, 6, none⟩ (.slice (some ⟨gm, 0, none⟩) (ls.length + 1) cap)) := by
 have hlt := SB.lt hs; have hbA : WA.heap[b]? = _ := jR hWA hs; have hb5 : w5.heap[b]? = _ := (hg.block b (Nat.lt_of_lt_of_le hlt hWA.size) (ji0 ht hs)).trans hbA; have h1 := j5 (j := 6) (u := .slice (some ⟨gm, 0, none⟩) (ls.length + 1) cap) hb5; simp only [List.setIfInBounds_toArray, List.set_cons_zero, List.set_cons_succ] at h1; have hO : LOwnT w5 H (.slice (some ⟨gm, 0, none⟩) (ls.length + 1) cap) (ls ++ [x]) := by
  unfold LOwnT; rw [jei, List.length_append]; exact hown
 refine ⟨h1, zD (ji2 ho ht hWA hg) hb5, jhm hO hb5, ?_⟩; have hbl : Below n w w5 := (h0.trans (hWA.mono (by omega))).grown hg (by have := h0.size; have := hWA.size; omega) (fun k hk => Nat.le_trans hH (jiY ht k hk)); exact hbl.setCell (p := ⟨b, 6, none⟩) hn _
theorem jf3 (w : World) (a b c d e : Value) (t : TypeId) (H : Nat) (hH : w.heap.size = H) : ∀ j u, [a, b, c, d, e][j]? = some u → (w.alloc (.cells #[a, b, c, d, e] t)).cell? ((⟨H, 0, none⟩ : Addr).add j) = some u := by
 intro j u hj; subst hH; rw [Addr.add_lit]; have := heap_alloc_new w (.cells #[a, b, c, d, e] t); simp only [World.cell?, this, Nat.zero_add]
 simpa using hj
def LRdP (n b B H : Nat) (w : World) (r : Ses × List Ltr) (e : Ending) (w' : World) : Prop := e = .returned (.tuple #[]) ∧ ∃ lv, SesW w' b B r.1 lv ∧ LOwnT w' H lv r.2 ∧ Below n w w'
theorem jfl {s : Ses} {i : Nat} {x : Adr} (h : s.to[i]? = some x) : (jF s).take (i + 1) = (jF s).take i ++ [(s.frm, x, s.text)] := by
 have h2 : (jF s)[i]? = some (s.frm, x, s.text) := by unfold jF; rw [List.getElem?_map, h]; rfl
 exact jcj h2
theorem jfm (s : Ses) (i : Nat) (h : i ≤ s.to.length) : ((jF s).take i).length = i := by
 rw [List.length_take]; unfold jF; rw [List.length_map]; omega
theorem jmy {w : World} {B b : Nat} {v : Value} {l : List Ltr} {cs : Array Value} (h : LOwnT w B v l) (hb : w.heap[b]? = some (.cells cs 179)) (k : Int) : LOwnT (jfC w b k) B v l := by
 unfold LOwnT at *; refine ⟨h.1, ?_⟩
 rcases h.2 with h' | ⟨g, cap, cur, hv, hB, hg, hr⟩
 · exact .inl h'
 · refine .inr ⟨g, cap, cur, hv, hB, ?_, hr⟩; have hne : g ≠ b := fun e => by rw [e, hb] at hg; simp at hg
   exact (jhD k hne).trans hg
theorem jee (n b B : Nat) (s : Ses) (w : World) (h : SesW w b B s (.slice none 0 0)) (hn : n ≤ b) (h5 : s.to.length ≤ 1000) :
 Calls Tryz.prog 138 #[.pointer (some ⟨b, 0, none⟩)] w (LRdP n b B w.heap.size w (atS 1, jF s)) := by
 obtain ⟨v, hs, ho⟩ := h; obtain ⟨av, cv, rfl⟩ := ho.slice; obtain ⟨⟨x0, x1, x2, x3, x4, x5, x6⟩, hfz⟩ := zx hs; obtain ⟨i0, hi', hz0, hz1, hz2⟩ := info_parts jm4; have HS := hid hs; have HO := hid ho; have HNW := hid (show n ≤ w.heap.size from Nat.le_trans hn (Nat.le_of_lt (SB.lt hs))); clear hs ho hfz; go_enter Tryz.func138, Tryz.ntmps138; go_wp2
 go_loopw [10] (fun q wr => ∃ (i : Nat) (lv : Value), i ≤ s.to.length ∧ q = .int .i64 i ∧ Hid (SB wr b s (.slice av s.to.length cv) lv) ∧ Hid (OwnL wr B (.slice av s.to.length cv) s.to) ∧ Hid (LOwnT wr w.heap.size lv ((jF s).take i)) ∧ Hid (Below n w wr)) (fun q _ => s.to.length - (intOf q).toNat)
 case atStart => exact ⟨0, _, Nat.zero_le _, rfl, HS, HO, LOwnT.nil _ _, Below.refl _ _⟩
 case round =>
  obtain ⟨i, lv, hi, rfl, HSR, HOR, HTR, HBR⟩ := hrel; clear x0 x1 x2 x3 x4 x5 x6
  by_cases hlt : i < s.to.length
  · have i1 : (i : Int) < (s.to.length : Int) := by omega
    have i0' : (0 : Int) ≤ (i : Int) := by omega
    obtain ⟨x, hx⟩ : ∃ x, s.to[i]? = some x := ⟨_, List.getElem?_eq_getElem hlt⟩; obtain ⟨p, o, rfl, _, _, e0, e1⟩ := jdd (HOR.out.row (by unfold maxLen; omega)) hx; obtain ⟨al, cl, rfl⟩ := HTR.out.slice; have HLL := hid (jfm s i hi); rw [HLL.out] at HSR HTR; have HLG := hid (jfl hx); obtain ⟨W2, hW2⟩ : ∃ W2, W2 = wr.alloc (.cells #[.string (S x.1), .string (S x.2)] 76) := ⟨_, rfl⟩; have HWE2 := hid hW2; have hB2 : Below wr.heap.size wr W2 := by rw [hW2]; exact nb0 _ _
    obtain ⟨m0, m1⟩ := qB (show W2.heap[wr.heap.size]? = some (.cells #[.string (S x.1), .string (S x.2)] 76) by rw [hW2]; exact heap_alloc_new wr _); have HS2 := hid (show SB W2 b s (.slice (some ⟨p, o, none⟩) s.to.length cv) (.slice al i cl) from jR hB2 HSR.out); have HO2 := hid (jQ HOR.out hB2); have HT2 := hid (jeq HTR.out hB2); have HB2 := hid (show Below n w W2 from HBR.out.trans (hB2.mono (Nat.le_trans hn (Nat.le_of_lt (SB.lt HSR.out))))); obtain ⟨⟨y0, y1, y2, y3, y4, y5, y6⟩, hgz⟩ := zx HS2.out; have g6 := hgz 6; have HBB := hid (SB.lt HS2.out); have HNE := hid (ji0 HT2.out HS2.out); have HBW := hid (show w.heap.size ≤ W2.heap.size from HB2.out.size); have HTL := hid (show LOwnT W2 w.heap.size (.slice al i cl) ((jF s).take i) = W2.ownsRow w.heap.size 183 5 (.slice al i cl) i (zX ((jF s).take i)) by unfold LOwnT; rw [HLL.out]); have HT3 := hid (show W2.ownsRow w.heap.size 183 5 (.slice al i cl) i (zX ((jF s).take i)) by rw [← HTL.out]; exact HT2.out); have y1a : ∀ o : Obj, (W2.alloc o).cell? ⟨b, 1, none⟩ = some (.string (S s.frm.1)) := fun o => jy y1 o
    have y2a : ∀ o : Obj, (W2.alloc o).cell? ⟨b, 2, none⟩ = some (.string (S s.frm.2)) := fun o => jy y2 o
    have y4a : ∀ o : Obj, (W2.alloc o).cell? ⟨b, 4, none⟩ = some (.string (S s.text)) := fun o => jy y4 o
    have y6a : ∀ o : Obj, (W2.alloc o).cell? ⟨b, 6, none⟩ = some (.slice al i cl) := fun o => jy y6 o
    have m0a : ∀ o : Obj, (W2.alloc o).cell? ⟨wr.heap.size, 0, none⟩ = some (.string (S x.1)) := fun o => jy m0 o
    have m1a : ∀ o : Obj, (W2.alloc o).cell? ⟨wr.heap.size, 1, none⟩ = some (.string (S x.2)) := fun o => jy m1 o
    clear hx hW2 hB2 hgz HTL; go_wp2; rw [← HWE2.out]
    go_region_law
        (first
          | (refine step_append_lies _ (by rfl) _ _ _ (by rfl) w.heap.size 183 i0 _ 5 80 Tryz.underlying141 hi' hz0 hz1 hz2 rfl (by omega) (.slice al i cl) i (zX ((jF s).take i)) (by rfl) (by first | exact World.ownsRow.alloc (show World.ownsRow W2.drew _ _ _ _ _ _ from HT3.out) _ | exact (World.ownsRow.alloc HT3.out _).drew)
               ⟨W2.heap.size, 0, none⟩ 1 1 (ltrC (s.frm, x, s.text)) (by rfl) (by rfl) (by first | exact jf3 W2.drew _ _ _ _ _ _ _ rfl | exact jf3 W2 _ _ _ _ _ _ _ rfl) (by simp [ltrC, Value.oneCell']) (by omega) (by unfold maxLen; omega) (by omega) (by have := HBW.out; simp; omega) _ rfl ?_
             intro gm cap w5 hown5 hgrow hat hlt5; have z6 := hgrow.cell (a := ⟨b, 6, none⟩) (jy (w := W2.drew) y6 _) HNE.out; have HWA := hid (show Below W2.heap.size W2 (W2.drew.alloc (.cells #[.string (S s.frm.1), .string (S s.frm.2), .string (S x.1), .string (S x.2), .string (S s.text)] 183)) from (Below.refl _ W2).drew.alloc (Nat.le_refl _) _); have hb5 := (hgrow.block b (Nat.lt_of_lt_of_le HBB.out HWA.out.size) HNE.out).trans (jR HWA.out HS2.out); have zf6 := jcW hb5 6; have hown6 : w5.ownsRow w.heap.size 183 5 (.slice (some ⟨gm, 0, none⟩) (((jF s).take i).length + 1) cap) (((jF s).take i).length + 1) (zX ((jF s).take i) ++ ltrC (s.frm, x, s.text)) := HLL.out.symm ▸ hown5; have HEN := hid (jki HS2.out HO2.out HT2.out hn HNW.out HB2.out HWA.out hgrow hown6); clear hown5 hown6 hgrow hat hb5)
          | fail)
    all_goals
        rw [HLL.out] at HEN; have HF1 := hid HEN.out.1; have HF2 := hid HEN.out.2.1; have HF3 := hid (show LOwnT _ w.heap.size _ ((jF s).take (i + 1)) by rw [HLG.out]; exact HEN.out.2.2.1); have HF4 := hid HEN.out.2.2.2; clear HEN; go_wp2
        go_roundw
        case rel => first | exact ⟨i + 1, _, by omega, by go_num, HF1, HF2, HF3, HF4⟩ | ((repeat apply Exists.intro); exact ⟨⟨i + 1, _, by omega, by go_num, HF1, HF2, HF3, HF4⟩, rfl⟩) | (refine ⟨trivial, ?_⟩; (repeat apply Exists.intro); exact ⟨⟨i + 1, _, by omega, by go_num, HF1, HF2, HF3, HF4⟩, rfl⟩)
        case measure => simp [intOf]; omega
  · have i1 : ¬ (i : Int) < (s.to.length : Int) := by omega
    have HLE := hid (show (jF s).take i = jF s by rw [List.take_of_length_le]; unfold jF; rw [List.length_map]; omega); have HBC := hid (jcK b 1 s _ lv wr HSR.out); have HE := hid (show LRdP n b B w.heap.size w (atS 1, jF s) (.returned (.tuple #[])) (jfC wr b 1) from ⟨rfl, lv, ⟨_, jeD HSR.out 1, OwnL.nil _ _⟩, by rw [HLE.out] at HTR; exact jmy HTR.out HSR.out 1, HBR.out.trans (jeE _ hn 1)⟩); go_wp2_with fail; refine HBC.out.mono ?_; rintro e u2 ⟨rfl, hu⟩; have hu' := hu.symm; subst hu'; go_wp2; go_end0; exact HE.out
theorem jej (a : List UInt8) (l : List UInt8) : ((S a).toList == l) = decide (a = l) := by
 rw [Lib.toList_data, jj]
 by_cases h : a = l
 · subst h; simp
 · simp [h]
theorem jep (n b B : Nat) (line : List UInt8) (s : Ses) (lv : Value) (w : World) (h : SesW w b B s lv) (hn : n ≤ b) (ht : line.length ≤ 2000) :
 Calls Tryz.prog 144 #[.pointer (some ⟨b, 0, none⟩), .string (S line)] w (ObP n b B w (jcE s line) lv) := by
 have HF := hid (show Calls Tryz.prog 180 #[.string (S line)] w fun e w' => e = .returned (.tuple #[.string (S (lowL line)), .int .i64 0]) ∧ Below w.heap.size w w' by
  refine (jkd (S line) w).mono ?_; rintro e u ⟨rfl, hb⟩; refine ⟨?_, hb⟩; unfold jkc; rw [if_pos (by rw [jd]; exact ht), low, jj]; rfl)
 have HG := hid (show jcE s line = if lowL line = jlh then jdo s else if lowL line = jln then (jdG s, 250) else if lowL line = jlk then (s, 250) else if lowL line = jll then (atS 5, 221) else (s, 500) from rfl); obtain ⟨L, hL⟩ : ∃ L, L = lowL line := ⟨_, rfl⟩; rw [← hL] at HF HG; have HH := hid h; have hlt : b < w.heap.size := by obtain ⟨v, h1, _⟩ := h; exact SB.lt h1
 have HNW := hid (show n ≤ w.heap.size by omega); have e1 := jej L [100, 97, 116, 97]; have e2 := jej L [114, 115, 101, 116]; have e3 := jej L [110, 111, 111, 112]; have e4 := jej L [113, 117, 105, 116]; clear h hL hlt; go_enter Tryz.func144, Tryz.ntmps144; go_wp2_with fail; refine HF.out.mono ?_; rintro e u ⟨rfl, hb⟩; have HB := hid (hb.mono HNW.out); have HU := hid (HH.out.next hb); clear hb
 by_cases h1 : L = jlh
 · rw [if_pos h1] at HG; rw [show decide (L = [100, 97, 116, 97]) = true by rw [h1]; rfl] at e1; clear h1 e2 e3 e4; have HC := hid (jdh n b B s lv u HU.out hn); go_wp2_with fail; refine HC.out.mono ?_; rintro e u2 ⟨rfl, hw, hb2⟩; have HE := hid (show ObP n b B w (jcE s line) lv (.returned (.int .i64 (jdo s).2)) u2 by rw [HG.out]; exact ⟨rfl, hw, HB.out.trans hb2⟩); clear hw hb2; go_wp2; go_ret; exact HE.out
 rw [if_neg h1] at HG; rw [show decide (L = [100, 97, 116, 97]) = false by simpa [jlh] using h1] at e1; clear h1
 by_cases h2 : L = jln
 · rw [if_pos h2] at HG; rw [show decide (L = [114, 115, 101, 116]) = true by rw [h2]; rfl] at e2; clear h2 e3 e4; have HC := hid (jje n b B s lv u HU.out hn); go_wp2_with fail; refine HC.out.mono ?_; rintro e u2 ⟨rfl, hw, hb2⟩; have HE := hid (show ObP n b B w (jcE s line) lv (.returned (.int .i64 250)) u2 by rw [HG.out]; exact ⟨rfl, hw, HB.out.trans hb2⟩); clear hw hb2; go_wp2; go_ret; exact HE.out
 rw [if_neg h2] at HG; rw [show decide (L = [114, 115, 101, 116]) = false by simpa [jln] using h2] at e2; clear h2
 by_cases h3 : L = jlk
 · rw [if_pos h3] at HG; rw [show decide (L = [110, 111, 111, 112]) = true by rw [h3]; rfl] at e3; clear h3 e4; have HE := hid (show ObP n b B w (jcE s line) lv (.returned (.int .i64 250)) u by rw [HG.out]; exact ⟨rfl, HU.out, HB.out⟩); go_wp2; go_ret; exact HE.out
 rw [if_neg h3] at HG; rw [show decide (L = [110, 111, 111, 112]) = false by simpa [jlk] using h3] at e3; clear h3
 by_cases h4 : L = jll
 · rw [if_pos h4] at HG; rw [show decide (L = [113, 117, 105, 116]) = true by rw [h4]; rfl] at e4; clear h4; obtain ⟨v, hv1, hv2⟩ := HU.out; have HC := hid (jaU n b B 5 s v lv u hv1 hn); clear hv1 hv2; go_wp2_with fail; refine HC.out.mono ?_; rintro e u2 ⟨rfl, hw, hb2⟩; have HE := hid (show ObP n b B w (jcE s line) lv (.returned (.int .i64 221)) u2 by rw [HG.out]; exact ⟨rfl, hw, HB.out.trans hb2⟩); clear hw hb2; go_wp2; go_ret; exact HE.out
 rw [if_neg h4] at HG; rw [show decide (L = [113, 117, 105, 116]) = false by simpa [jll] using h4] at e4; clear h4; have HE := hid (show ObP n b B w (jcE s line) lv (.returned (.int .i64 500)) u by rw [HG.out]; exact ⟨rfl, HU.out, HB.out⟩); go_wp2; go_ret; exact HE.out
theorem jmR (a b : List UInt8) : S a ++ (S b ++ ⟨#[13, 10]⟩) = S (a ++ b ++ [13, 10]) := by
 have h : ∀ x y : List UInt8, S x ++ S y = S (x ++ y) := fun x y => by
  apply ByteArray.ext
  rw [ByteArray.data_append]
  simp [S]
 rw [show (⟨#[13, 10]⟩ : ByteArray) = S [13, 10] from rfl, h, h, List.append_assoc]
theorem jjH (l : List UInt8) : (qO l).length ≤ l.length := by
 cases l with
 | nil => simp [qO]
 | cons c t => simp only [qO]; split <;> simp
theorem jiO (n b B : Nat) (line : List UInt8) (s : Ses) (w : World) (h : SesW w b B s (.slice none 0 0)) (hn : n ≤ b) (h5 : s.to.length ≤ 1000) (hl : line.length ≤ 140737488355328) (ht : s.text.length ≤ 2000) :
 Calls Tryz.prog 105 #[.pointer (some ⟨b, 0, none⟩), .string (S line)] w (LRdP n b B w.heap.size w (vy s line)) := by
 have e1 := jej line [46]
 by_cases hd : line = [46]
 · have HG := hid (show vy s line = (atS 1, jF s) by unfold vy; rw [if_pos hd]); have HX := hid (jee n b B s w h hn h5); rw [show decide (line = [46]) = true by simp [hd]] at e1; clear hd h; go_enter Tryz.func105, Tryz.ntmps105; go_wp2_with fail; refine HX.out.mono ?_; intro e u hp; have HP := hid hp; obtain ⟨rfl, _⟩ := hp; have HE := hid (show LRdP n b B w.heap.size w (vy s line) (.returned (.tuple #[])) u by rw [HG.out]; exact HP.out); go_wp2; go_end0; exact HE.out
 · have HG := hid (show vy s line = (jhv s line, []) by unfold vy; rw [if_neg hd]); rw [show decide (line = [46]) = false by simp [hd]] at e1; clear hd; obtain ⟨v, hs, ho⟩ := h; obtain ⟨⟨x0, x1, x2, x3, x4, x5, x6⟩, hfz⟩ := zx hs; have f4 := hfz 4; have f5 := hfz 5; have HTD := hid (jfP (S line) w); rw [jj] at HTD; have HZ1 := hid (jd s.text); have HZ2 := hid (jd (qO line)); have hul := jjH line; have HE1 := hid (show s.large = true ∨ 2000 < s.text.length + (qO line).length + 2 → LRdP n b B w.heap.size w (vy s line) (.returned (.tuple #[])) (w.setCell ⟨b, 5, none⟩ (.bool true)) by
    intro hc; rw [HG.out]; unfold jhv; rw [if_pos hc]; have h1 := j5 (j := 5) (u := .bool true) hs; simp only [List.setIfInBounds_toArray, List.set_cons_zero, List.set_cons_succ] at h1; exact ⟨rfl, _, ⟨v, h1, zD ho hs⟩, LOwnT.nil _ _, (Below.refl _ _).setCell (p := ⟨b, 5, none⟩) hn _⟩)
   have HE2 := hid (show ¬ (s.large = true ∨ 2000 < s.text.length + (qO line).length + 2) → LRdP n b B w.heap.size w (vy s line) (.returned (.tuple #[])) (w.setCell ⟨b, 4, none⟩ (.string (S s.text ++ (S (qO line) ++ ⟨#[13, 10]⟩)))) by
    intro hc; rw [HG.out]; unfold jhv; rw [if_neg hc]; have h1 := j5 (j := 4) (u := .string (S s.text ++ (S (qO line) ++ ⟨#[13, 10]⟩))) hs; simp only [List.setIfInBounds_toArray, List.set_cons_zero, List.set_cons_succ] at h1; rw [jmR] at h1 ⊢; exact ⟨rfl, _, ⟨v, h1, zD ho (by exact hs)⟩, LOwnT.nil _ _, (Below.refl _ _).setCell (p := ⟨b, 4, none⟩) hn _⟩)
   obtain ⟨g, hg⟩ : ∃ g, g = s.large := ⟨_, rfl⟩; rw [← hg] at x5 HE1 HE2; clear hs ho hfz hg; obtain ⟨U, hU⟩ : ∃ U, U = qO line := ⟨_, rfl⟩; rw [← hU] at HTD HZ2 hul HE1 HE2; clear hU; cases g with
   | true =>
     go_enter Tryz.func105, Tryz.ntmps105; go_wp2_with fail; refine HTD.out.mono ?_; rintro e u ⟨rfl, hu⟩; have hu' := hu.symm; subst hu'; go_wp2; go_end0; exact HE1.out (by simp)
   | false =>
     have hz1 := HZ1.out; have hz2 := HZ2.out
     by_cases hc : 2000 < s.text.length + U.length + 2
     · have hc' : (2000 : Int) < ((S s.text).size : Int) + ((S U).size : Int) + 2 := by omega
       have hw1 : ((S s.text).size : Int) + ((S U).size : Int) + 2 < 9223372036854775808 := by omega
       clear hz1 hz2; go_enter Tryz.func105, Tryz.ntmps105; go_wp2_with fail; refine HTD.out.mono ?_; rintro e u ⟨rfl, hu⟩; have hu' := hu.symm; subst hu'; go_wp2; go_end0; exact HE1.out (.inr hc)
     · have hc' : ¬ (2000 : Int) < ((S s.text).size : Int) + ((S U).size : Int) + 2 := by omega
       have hw1 : ((S s.text).size : Int) + ((S U).size : Int) + 2 < 9223372036854775808 := by omega
       have hw2 : (S U).size ≤ 2000 := by omega
       have hw3 : (S s.text).size ≤ 2000 := by omega
       clear hz1 hz2 hul hl ht; clear hw1; go_enter Tryz.func105, Tryz.ntmps105; go_wp2_with fail; refine HTD.out.mono ?_; rintro e u ⟨rfl, hu⟩; have hu' := hu.symm; subst hu'; go_wp2; go_end0; exact HE2.out (by simp; omega)
theorem jaW {wd line r : List UInt8} (h : zw wd line = some r) : r.length ≤ line.length := by
 unfold zw at h; split at h
 · cases h; simp
 · cases h
theorem jky (n b B : Nat) (line : List UInt8) (known : List (List UInt8)) (kv : Value) (s : Ses) (lv : Value) (w : World) (h : SesW w b B s lv) (hn : n ≤ b) (hB : n ≤ B) (hl : line.length ≤ 140737488355328) (hk : TxtsM (· < n) w kv known) (h5 : s.to.length ≤ 1000) (hBw : B ≤ w.heap.size) :
 Calls Tryz.prog 106 #[.pointer (some ⟨b, 0, none⟩), .string (S line), kv] w (ObP n b B w (cmdM s known line) lv) := by
 have HZ := hid (jd line)
 by_cases hL : 300 < line.length
 · have h3 : (300 : Int) < ((S line).size : Int) := by rw [HZ.out]; omega
   have HE := hid (show ObP n b B w (cmdM s known line) lv (.returned (.int .i64 500)) w by unfold cmdM; rw [if_pos hL]; exact ⟨rfl, h, Below.refl _ _⟩); clear h hk; go_enter Tryz.func106, Tryz.ntmps106; go_wp2; go_ret; exact HE.out
 have h3 : ¬ (300 : Int) < ((S line).size : Int) := by rw [HZ.out]; omega
 have HG := hid (show cmdM s known line = cmd1 s known line (zw jli line) by unfold cmdM; rw [if_neg hL]); have hlt : b < w.heap.size := by obtain ⟨v, h1, _⟩ := h; exact SB.lt h1
 have HNW := hid (show n ≤ w.heap.size by omega); have HH := hid h; have HK := hid hk; have HB1 := hid (fun u => jaV jli line u (by decide) (by decide)); have HB2 := hid (fun u => jaV jlj line u (by decide) (by decide)); have HB3 := hid (fun u => jaV jlm line u (by decide) (by decide)); obtain ⟨o1, ho1⟩ : ∃ o1, o1 = zw jli line := ⟨_, rfl⟩; have hl1 : ∀ r, o1 = some r → r.length ≤ 300 := fun r hr => by rw [ho1] at hr; have := jaW hr; omega
 rw [← ho1] at HB1 HG; clear h hk hlt ho1; go_enter Tryz.func106, Tryz.ntmps106; go_wp2_with fail; refine (HB1.out _).mono ?_; intro e w1 hp1; cases o1 with
 | some r =>
   obtain ⟨rfl, hb⟩ := hp1; have HX := hid (jit n b B r s lv w1 (HH.out.next hb) hn (by have := hl1 r rfl; omega)); have HB := hid (hb.mono HNW.out); clear hb hl1; go_wp2_with fail; refine HX.out.mono ?_; rintro e w2 ⟨rfl, hw, hb2⟩; have HE := hid (show ObP n b B w (cmdM s known line) lv (.returned (.int .i64 (jay s r).2)) w2 by rw [HG.out]; exact ⟨rfl, hw, HB.out.trans hb2⟩); clear hw hb2; go_wp2; go_ret; exact HE.out
 | none =>
   obtain ⟨⟨t1, rfl⟩, hb⟩ := hp1; have HB := hid (hb.mono HNW.out); have HW1 := hid (HH.out.next hb); have HN1 := hid (Nat.le_trans HNW.out hb.size); have HBW1 := hid (Nat.le_trans hBw hb.size); clear hb hl1; have HG2 := hid (show cmdM s known line = cmd2 s known line (zw jlj line) from HG.out); obtain ⟨o2, ho2⟩ : ∃ o2, o2 = zw jlj line := ⟨_, rfl⟩; have hl2 : ∀ r, o2 = some r → r.length ≤ 300 := fun r hr => by rw [ho2] at hr; have := jaW hr; omega
   rw [← ho2] at HB2 HG2; clear ho2; go_wp2_with fail; refine (HB2.out _).mono ?_; intro e w2 hp2; cases o2 with
   | some r =>
     obtain ⟨rfl, hb⟩ := hp2; have HX := hid (jdI n b B r s lv w2 (HW1.out.next hb) hn (by have := hl2 r rfl; omega)); have HBB := hid (HB.out.trans (hb.mono HN1.out)); clear hb hl2; go_wp2_with fail; refine HX.out.mono ?_; rintro e w3 ⟨rfl, hw, hb2⟩; have HE := hid (show ObP n b B w (cmdM s known line) lv (.returned (.int .i64 (jcw s r).2)) w3 by rw [HG2.out]; exact ⟨rfl, hw, HBB.out.trans hb2⟩); clear hw hb2; go_wp2; go_ret; exact HE.out
   | none =>
     obtain ⟨⟨t2, rfl⟩, hb⟩ := hp2; have HBB := hid (HB.out.trans (hb.mono HN1.out)); have HW2 := hid (HW1.out.next hb); have HN2 := hid (Nat.le_trans HN1.out hb.size); have HBW2 := hid (Nat.le_trans HBW1.out hb.size); clear hb hl2; have HG3 := hid (show cmdM s known line = cmd3 s known line (zw jlm line) from HG2.out); obtain ⟨o3, ho3⟩ : ∃ o3, o3 = zw jlm line := ⟨_, rfl⟩; have hl3 : ∀ r, o3 = some r → r.length ≤ 300 := fun r hr => by rw [ho3] at hr; have := jaW hr; omega
     rw [← ho3] at HB3 HG3; clear ho3; go_wp2_with fail; refine (HB3.out _).mono ?_; intro e w3 hp3; cases o3 with
     | some r =>
       obtain ⟨rfl, hb⟩ := hp3; have HBC := hid (HBB.out.trans (hb.mono HN2.out)); have HX := hid (jeW n b B r known kv s lv w3 (HW2.out.next hb) hn hB (by have := hl3 r rfl; omega) (HK.out.nextB HBC.out) h5 (Nat.le_trans HBW2.out hb.size)); clear hb hl3; go_wp2_with fail; refine HX.out.mono ?_; rintro e w4 ⟨rfl, hw, hb2⟩; have HE := hid (show ObP n b B w (cmdM s known line) lv (.returned (.int .i64 (jaH s known r).2)) w4 by rw [HG3.out]; exact ⟨rfl, hw, HBC.out.trans hb2⟩); clear hw hb2; go_wp2; go_ret; exact HE.out
     | none =>
       obtain ⟨⟨t3, rfl⟩, hb⟩ := hp3; have HBC := hid (HBB.out.trans (hb.mono HN2.out)); have HX := hid (jep n b B line s lv w3 (HW2.out.next hb) hn (by omega)); clear hb hl3; go_wp2_with fail; refine HX.out.mono ?_; rintro e w4 ⟨rfl, hw, hb2⟩; have HE := hid (show ObP n b B w (cmdM s known line) lv (.returned (.int .i64 (jcE s line).2)) w4 by rw [HG3.out]; exact ⟨rfl, hw, HBC.out.trans hb2⟩); clear hw hb2; go_wp2; go_ret; exact HE.out
theorem j7 {w : World} {B b j : Nat} {v u : Value} {l : List Adr} (h : OwnL w B v l) (hb : b < B) : OwnL (w.setCell ⟨b, j, none⟩ u) B v l := by
 unfold OwnL at *; refine ⟨h.1, ?_⟩
 rcases h.2 with h' | ⟨g, cap, cur, hv, hB, hg, hr⟩
 · exact .inl h'
 · exact .inr ⟨g, cap, cur, hv, hB, (Below.heap_setCell _ _ _ _ (show g ≠ b by omega)).trans hg, hr⟩
theorem jaE {w : World} {B B' : Nat} {v : Value} {l : List Adr} (h : OwnL w B v l) (hb : B' ≤ B) : OwnL w B' v l := by
 unfold OwnL at *; refine ⟨h.1, ?_⟩
 rcases h.2 with h' | ⟨g, cap, cur, hv, hB, hg, hr⟩
 · exact .inl h'
 · exact .inr ⟨g, cap, cur, hv, by omega, hg, hr⟩
def GoP (w : World) (s : Ses) (e : Ending) (w' : World) : Prop := ∃ v, e = .returned (.agg #[.int .i64 s.step, .string (S s.frm.1), .string (S s.frm.2), v, .string (S s.text), .bool s.large, .slice none 0 0]) ∧ OwnL w' w.heap.size v s.to ∧ Below w.heap.size w w'
theorem sev7 {W : World} {p : Nat} {u0 u1 u2 u3 u4 u5 u6 v0 v1 v2 v3 v4 v5 v6 : Value} {t : TypeId} (h : W.heap[p]? = some (.cells #[u0, u1, u2, u3, u4, u5, u6] t)) : (((((((W.setCell ⟨p, 0, none⟩ v0).setCell ⟨p, 1, none⟩ v1).setCell ⟨p, 2, none⟩ v2).setCell ⟨p, 3, none⟩ v3).setCell ⟨p, 4, none⟩ v4).setCell ⟨p, 5, none⟩ v5).setCell ⟨p, 6, none⟩ v6).heap[p]? = some (.cells #[v0, v1, v2, v3, v4, v5, v6] t) := by
 have := j5 (j := 6) (u := v6) (six7 (v0 := v0) (v1 := v1) (v2 := v2) (v3 := v3) (v4 := v4) (v5 := v5) h); simp only [List.setIfInBounds_toArray, List.set_cons_succ, List.set_cons_zero] at this; exact this
theorem jed (Q : Nat → Prop) (s : Ses) (v : Value) (w : World) (ha : AdrsM Q w v s.to) (hn : s.to.length ≤ 1000) :
 Calls Tryz.prog 104 #[sesV s v] w (GoP w s) := by
 obtain ⟨W1, hW1⟩ : ∃ W1, W1 = (w.alloc (.cells #[.int .i64 s.step, .string (S s.frm.1), .string (S s.frm.2), v, .string (S s.text), .bool s.large] 79)).alloc (.cells #[.int .i64 0, .string ⟨#[]⟩, .string ⟨#[]⟩, .slice none 0 0, .string ⟨#[]⟩, .bool false, .slice none 0 0] 179) := ⟨_, rfl⟩; have HWE := hid hW1; have hB1 : Below w.heap.size w W1 := by rw [hW1]; exact (nb0 _ _).alloc (by simp) _
 have HB1 := hid hB1; have hX0 : W1.heap[w.heap.size]? = some (.cells #[.int .i64 s.step, .string (S s.frm.1), .string (S s.frm.2), v, .string (S s.text), .bool s.large] 79) := by rw [hW1]; exact jby _ (heap_alloc_new w _)
 have hX1 : W1.heap[w.heap.size + 1]? = some (.cells #[.int .i64 0, .string ⟨#[]⟩, .string ⟨#[]⟩, .slice none 0 0, .string ⟨#[]⟩, .bool false, .slice none 0 0] 179) := by rw [hW1]; exact jdq _ (by simp)
 have hz : W1.heap.size = w.heap.size + 2 := by rw [hW1]; simp
 have HZ := hid hz; have HC := hid (jgF Q s.to v W1 (ha.next hB1) hn); have HX0 := hid hX0; have HX1 := hid hX1; obtain ⟨x0, x1, x2, x3, x4, x5⟩ := zL hX0; clear hW1 hX0 hX1 hB1 ha hz; unfold sesV; go_enter Tryz.func104, Tryz.ntmps104; go_upto_region 1 with fail
 rw [← HWE.out]; go_wp2_with fail; refine HC.out.mono ?_; rintro e u ⟨v', rfl, ho, hb⟩; obtain ⟨a', c', rfl⟩ := ho.slice; have hY0 := jR hb HX0.out; have hY1 := jR hb HX1.out; obtain ⟨y0, y1, y2, y3, y4, y5⟩ := zL hY0; have f3 := jcW hY0 3; have hne : w.heap.size + 1 ≠ w.heap.size := by omega
 obtain ⟨U, hU⟩ : ∃ U, U = u.setCell ⟨w.heap.size, 3, none⟩ (.slice a' s.to.length c') := ⟨_, rfl⟩; have HUE := hid hU; have hV0 := j5 (j := 3) (u := (.slice a' s.to.length c')) hY0; have hV1 : (u.setCell ⟨w.heap.size, 3, none⟩ (.slice a' s.to.length c')).heap[w.heap.size + 1]? = _ := (Below.heap_setCell _ _ _ _ hne).trans hY1; simp only [List.setIfInBounds_toArray, List.set_cons_zero, List.set_cons_succ] at hV0; rw [← hU] at hV0 hV1; have HV0 := hid hV0; have HV1 := hid hV1; have HF := hid (show GoP w s (.returned (.agg #[.int .i64 s.step, .string (S s.frm.1), .string (S s.frm.2), (.slice a' s.to.length c'), .string (S s.text), .bool s.large, .slice none 0 0])) (((((((U.setCell ⟨w.heap.size + 1, 0, none⟩ (.int .i64 s.step)).setCell ⟨w.heap.size + 1, 1, none⟩ (.string (S s.frm.1))).setCell ⟨w.heap.size + 1, 2, none⟩ (.string (S s.frm.2))).setCell ⟨w.heap.size + 1, 3, none⟩ (.slice a' s.to.length c')).setCell ⟨w.heap.size + 1, 4, none⟩ (.string (S s.text))).setCell ⟨w.heap.size + 1, 5, none⟩ (.bool s.large)).setCell ⟨w.heap.size + 1, 6, none⟩ (.slice none 0 0)) by
  have hz := HZ.out; have h1 : w.heap.size < W1.heap.size := by omega
  have h2 : w.heap.size + 1 < W1.heap.size := by omega
  have hbU : Below w.heap.size w U := by rw [hU]; exact (HB1.out.trans (hb.mono HB1.out.size)).setCell (p := ⟨w.heap.size, 3, none⟩) (Nat.le_refl _) _
  refine ⟨(.slice a' s.to.length c'), rfl, jaE (j7 (j7 (j7 (j7 (j7 (j7 (j7 (by rw [hU]; exact j7 ho h1) h2) h2) h2) h2) h2) h2) h2) (by omega), ?_⟩; exact (hbU.trans (low7 U _ _ _ _ _ _ (Nat.le_succ _))).setCell (p := ⟨w.heap.size + 1, 6, none⟩) (Nat.le_succ _) _)
 clear hY0 hY1 hV0 hV1 ho hb hU; go_upto_region 2 with fail
 rw [← HUE.out]; clear y0 y1 y2 y3 y4 y5 f3 x0 x1 x2 x3 x4 x5; obtain ⟨p0, p1, p2, p3, p4, p5⟩ := zL HV0.out; obtain ⟨⟨q0, q1, q2, q3, q4, q5, q6⟩, hgz⟩ := zx HV1.out; have g0 := hgz 0; have g1 := hgz 1; have g2 := hgz 2; have g3 := hgz 3; have g4 := hgz 4; have g5 := hgz 5; have g6 := hgz 6; have hR := sev7 (v0 := .int .i64 s.step) (v1 := .string (S s.frm.1)) (v2 := .string (S s.frm.2)) (v3 := (.slice a' s.to.length c')) (v4 := .string (S s.text)) (v5 := .bool s.large) (v6 := .slice none 0 0) HV1.out; have HR := hid hR; clear hR hgz; go_wp2; obtain ⟨⟨r0, r1, r2, r3, r4, r5, r6⟩, _⟩ := zx HR.out; clear p0 p1 p2 p3 p4 p5 q0 q1 q2 q3 q4 q5 q6 g0 g1 g2 g3 g4 g5 g6; refine bodyPost_ret (v := .agg #[.int .i64 s.step, .string (S s.frm.1), .string (S s.frm.2), (.slice a' s.to.length c'), .string (S s.text), .bool s.large, .slice none 0 0]) (by simp [results, Tryz.results104, go_sem, *]) rfl ?_; exact HF.out
end Go.Proofs.YtmgdnhjemhhleaaGreatDoor
