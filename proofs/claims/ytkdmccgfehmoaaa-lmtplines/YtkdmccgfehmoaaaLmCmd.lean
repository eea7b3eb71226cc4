/-
  What a session's commands do: the walks.
-/
import Derived.Test.YtkdmccgfehmoaaaLmAdr
namespace Go.Proofs.Ytkdmccgfehmoaaa
open Go.RowKit Go.Proofs

theorem SesW.next {w w' : World} {b B : Nat} {s : Ses} {lv : Value} (h : SesW w b B s lv) (hb : Below w.heap.size w w') : SesW w' b B s lv := by
  obtain ⟨v, h1, h2⟩ := h
  exact ⟨v, lm_next hb h1, own_next h2 hb⟩
theorem SB.lt {w : World} {b : Nat} {s : Ses} {v lv : Value} (h : SB w b s v lv) : b < w.heap.size := (Array.getElem?_eq_some_iff.1 h).1
theorem below_n {n b : Nat} {w w' : World} {s : Ses} {v lv : Value} (h : SB w b s v lv) (hn : n ≤ b) (hb : Below w.heap.size w w') : Below n w w' := hb.mono (by have := h.lt; omega)
set_option maxHeartbeats 1000000 in
set_option maxRecDepth 100000 in
theorem greet_any (n b B : Nat) (t : List UInt8) (s : Ses) (lv : Value) (w : World) (h : SesW w b B s lv) (hn : n ≤ b) (ht : t.length ≤ 2000) :
    Calls Try.prog 30 #[.pointer (some ⟨b, 0, none⟩), .string (S t)] w (ObP n b B w (greetM s t) lv) := by
  obtain ⟨v, hs, ho⟩ := h
  have HK := hid (check_any ⟨#[120]⟩ (S t) w (by decide) (by rw [size_S]; omega))
  rw [list_S] at HK
  have HZ3 := hid (check_three [120] t)
  have HG := hid (show greetM s t = if checkA [120] t = 0 then (atS 1, 250) else (s, 501) by unfold greetM adrOk; by_cases h : checkA [120] t = 0 <;> simp [h])
  have e120 : (⟨#[120]⟩ : ByteArray).data.toList = [120] := rfl
  rw [e120] at HK
  clear e120
  obtain ⟨z, hz⟩ : ∃ z, z = checkA [120] t := ⟨_, rfl⟩
  rw [← hz] at HK HZ3 HG
  have HS := hid hs
  have HO := hid ho
  clear hz hs ho ht
  go_enter Try.func30, Try.ntmps30
  go_wp2_with fail
  refine HK.out.mono ?_
  rintro e u ⟨rfl, hb⟩
  have HB := hid (below_n HS.out hn hb)
  have HS2 := hid (lm_next hb HS.out)
  have HO2 := hid (own_next HO.out hb)
  clear hb
  rcases HZ3.out with rfl | rfl | rfl
  · have HBC := hid (become_any n b B 1 s v lv u HS2.out hn)
    go_wp2_with fail
    refine HBC.out.mono ?_
    rintro e u2 ⟨rfl, hw, hb2⟩
    have HE := hid (show ObP n b B w (greetM s t) lv (.returned (.int .i64 250)) u2 by rw [HG.out]; exact ⟨rfl, hw, HB.out.trans hb2⟩)
    clear hw hb2
    go_wp2
    go_ret
    exact HE.out
  · have HE := hid (show ObP n b B w (greetM s t) lv (.returned (.int .i64 501)) u by rw [HG.out]; exact ⟨rfl, ⟨v, HS2.out, HO2.out⟩, HB.out⟩)
    go_wp2
    go_ret
    exact HE.out
  · have HE := hid (show ObP n b B w (greetM s t) lv (.returned (.int .i64 501)) u by rw [HG.out]; exact ⟨rfl, ⟨v, HS2.out, HO2.out⟩, HB.out⟩)
    go_wp2
    go_ret
    exact HE.out
set_option maxHeartbeats 1000000 in
set_option maxRecDepth 100000 in
theorem beginBody_any (n b B : Nat) (s : Ses) (lv : Value) (w : World) (h : SesW w b B s lv) (hn : n ≤ b) :
    Calls Try.prog 47 #[.pointer (some ⟨b, 0, none⟩)] w (ObP n b B w (dataM s) lv) := by
  obtain ⟨v, hs, ho⟩ := h
  obtain ⟨⟨x0, x1, x2, x3, x4, x5, x6⟩, hfz⟩ := lm_box7 hs
  have f0 := hfz 0
  obtain ⟨k, hk⟩ : ∃ k, k = s.step := ⟨_, rfl⟩
  rw [← hk] at x0
  by_cases h3 : k = 3
  · subst h3
    have HE := hid (show ObP n b B w (dataM s) lv (.returned (.int .i64 354)) (w.setCell ⟨b, 0, none⟩ (.int .i64 4)) by
      unfold dataM
      rw [if_pos hk.symm]
      refine ⟨rfl, ⟨v, ?_, own_other ho hs⟩, (Below.refl _ _).setCell (p := ⟨b, 0, none⟩) hn _⟩
      have := lm_put (j := 0) (u := .int .i64 4) hs
      simp only [List.setIfInBounds_toArray, List.set_cons_zero] at this
      exact this)
    clear hs ho hfz hk
    go_enter Try.func47, Try.ntmps47
    go_wp2
    go_ret
    exact HE.out
  · have HE := hid (show ObP n b B w (dataM s) lv (.returned (.int .i64 503)) w by
      unfold dataM
      rw [if_neg (by rw [← hk]; exact h3)]
      exact ⟨rfl, ⟨v, hs, ho⟩, Below.refl _ _⟩)
    clear hs ho hfz hk
    go_enter Try.func47, Try.ntmps47
    go_wp2
    go_ret
    exact HE.out
set_option maxHeartbeats 1000000 in
set_option maxRecDepth 100000 in
theorem reset_any (n b B : Nat) (s : Ses) (lv : Value) (w : World) (h : SesW w b B s lv) (hn : n ≤ b) :
    Calls Try.prog 48 #[.pointer (some ⟨b, 0, none⟩)] w (DoP' n b B w (rsetM s) lv) := by
  obtain ⟨v, hs, ho⟩ := h
  obtain ⟨⟨x0, x1, x2, x3, x4, x5, x6⟩, hfz⟩ := lm_box7 hs
  have HBC := hid (become_any n b B 1 s v lv w hs hn)
  obtain ⟨k, hk⟩ : ∃ k, k = s.step := ⟨_, rfl⟩
  rw [← hk] at x0
  by_cases h0 : k = 0
  · have HE := hid (show DoP' n b B w (rsetM s) lv (.returned (.tuple #[])) w by
      unfold rsetM
      rw [if_pos (by rw [← hk]; exact h0)]
      exact ⟨rfl, ⟨v, hs, ho⟩, Below.refl _ _⟩)
    subst h0
    clear hs ho hfz hk
    go_enter Try.func48, Try.ntmps48
    go_wp2
    go_end0
    exact HE.out
  · have HG := hid (show rsetM s = atS 1 by unfold rsetM; rw [if_neg (by rw [← hk]; exact h0)])
    clear hs ho hfz hk
    go_enter Try.func48, Try.ntmps48
    go_wp2_with fail
    refine HBC.out.mono ?_
    rintro e u2 ⟨rfl, hw, hb2⟩
    have HE := hid (show DoP' n b B w (rsetM s) lv (.returned (.tuple #[])) u2 by rw [HG.out]; exact ⟨rfl, hw, hb2⟩)
    clear hw hb2
    go_wp2
    go_end0
    exact HE.out
set_option maxHeartbeats 1000000 in
set_option maxRecDepth 100000 in
theorem setSender_any (n b B : Nat) (t : List UInt8) (s : Ses) (lv : Value) (w : World) (h : SesW w b B s lv) (hn : n ≤ b) (ht : t.length ≤ 2000) :
    Calls Try.prog 31 #[.pointer (some ⟨b, 0, none⟩), .string (S t)] w (ObP n b B w (mailM s t) lv) := by
  obtain ⟨v, hs, ho⟩ := h
  obtain ⟨⟨x0, x1, x2, x3, x4, x5, x6⟩, hfz⟩ := lm_box7 hs
  have HA := hid (addressOf_any t w ht)
  obtain ⟨k, hk⟩ : ∃ k, k = s.step := ⟨_, rfl⟩
  rw [← hk] at x0
  by_cases h1 : k = 1
  · have HG := hid (show mailM s t = mailTo s (addrM t) by unfold mailM; rw [if_pos (by rw [← hk]; exact h1)])
    subst h1
    obtain ⟨A, hA⟩ : ∃ A, A = addrM t := ⟨_, rfl⟩
    rw [← hA] at HA HG
    have HS := hid hs
    have HO := hid ho
    clear hs ho hfz hk hA
    go_enter Try.func31, Try.ntmps31
    go_wp2_with fail
    refine HA.out.mono ?_
    rintro e u ⟨rfl, hb⟩
    have HB := hid (below_n HS.out hn hb)
    have HS2 := hid (lm_next hb HS.out)
    have HO2 := hid (own_next HO.out hb)
    have HNU := hid (show n ≤ u.heap.size from Nat.le_trans (Nat.le_trans hn (Nat.le_of_lt (SB.lt HS.out))) hb.size)
    clear hb x0 x1 x2 x3 x4 x5 x6
    cases A with
    | none =>
      simp only [adrV]
      have HE := hid (show ObP n b B w (mailM s t) lv (.returned (.int .i64 501)) (u.alloc (.cells #[.string ⟨#[]⟩, .string ⟨#[]⟩] 23)) by
        have hq : Below u.heap.size u (u.alloc (.cells #[.string ⟨#[]⟩, .string ⟨#[]⟩] 23)) := (Below.refl _ _).alloc (Nat.le_refl _) _
        rw [HG.out]
        exact ⟨rfl, ⟨v, lm_next hq HS2.out, own_next HO2.out hq⟩, HB.out.trans (hq.mono HNU.out)⟩)
      go_wp2
      go_ret
      exact HE.out
    | some a =>
      simp only [adrV]
      obtain ⟨W3, hW3⟩ : ∃ W3, W3 = u.alloc (.cells #[.string (S a.1), .string (S a.2)] 23) := ⟨_, rfl⟩
      have HWE3 := hid hW3
      have hq : Below u.heap.size u W3 := by rw [hW3]; exact (Below.refl _ _).alloc (Nat.le_refl _) _
      have hS3 : SB W3 b s v lv := lm_next hq HS2.out
      have hO3 := own_next HO2.out hq
      obtain ⟨⟨y0, y1, y2, y3, y4, y5, y6⟩, hgz⟩ := lm_box7 hS3
      have g0 := hgz 0
      have g1 := hgz 1
      have g2 := hgz 2
      obtain ⟨m0, m1⟩ := adr_box (show W3.heap[u.heap.size]? = some (.cells #[.string (S a.1), .string (S a.2)] 23) by rw [hW3]; exact heap_alloc_new u _)
      have HE := hid (show ObP n b B w (mailM s t) lv (.returned (.int .i64 250)) (((W3.setCell ⟨b, 1, none⟩ (.string (S a.1))).setCell ⟨b, 2, none⟩ (.string (S a.2))).setCell ⟨b, 0, none⟩ (.int .i64 2)) by
        rw [HG.out]
        have h1 := lm_put (j := 1) (u := .string (S a.1)) hS3
        have h2 := lm_put (j := 2) (u := .string (S a.2)) h1
        have h3 := lm_put (j := 0) (u := .int .i64 2) h2
        simp only [List.setIfInBounds_toArray, List.set_cons_zero, List.set_cons_succ] at h3
        refine ⟨rfl, ⟨v, h3, own_other (own_other (own_other hO3 hS3) h1) h2⟩, ?_⟩
        exact (((HB.out.trans (hq.mono HNU.out)).setCell (p := ⟨b, 1, none⟩) hn _).setCell (p := ⟨b, 2, none⟩) hn _).setCell (p := ⟨b, 0, none⟩) hn _)
      clear hW3 hq hS3 hO3 hgz
      go_upto_region 4 with fail
      rw [← HWE3.out]
      go_wp2
      go_ret
      exact HE.out
  · have HE := hid (show ObP n b B w (mailM s t) lv (.returned (.int .i64 503)) w by
      unfold mailM
      rw [if_neg (by rw [← hk]; exact h1)]
      exact ⟨rfl, ⟨v, hs, ho⟩, Below.refl _ _⟩)
    clear hs ho hfz hk
    go_enter Try.func31, Try.ntmps31
    go_wp2
    go_ret
    exact HE.out
end Go.Proofs.Ytkdmccgfehmoaaa
