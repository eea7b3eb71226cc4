/-
  What a session's command does that tells to whom: the walk.
-/
import Derived.Test.YtkdmccgfehmoaaaLmCmd
namespace Go.Proofs.Ytkdmccgfehmoaaa
open Go.RowKit Go.Proofs

theorem own_ne {w : World} {B b : Nat} {v : Value} {l : List Adr} {cs : Array Value} (h : OwnL w B v l) (hb : w.heap[b]? = some (.cells cs 43)) : some b ≠ v.ownBlock := by
  rcases h.2 with ⟨rfl, _⟩ | ⟨g, cap, cur, rfl, hB, hg, hr⟩
  · simp [Value.ownBlock]
  · intro e
    simp [Value.ownBlock] at e
    rw [← e, hb] at hg
    simp at hg
theorem lm_base {w : World} {B : Nat} {v : Value} {l : List Adr} (h : OwnL w B v l) : ∀ k, v.ownBlock = some k → B ≤ k := by
  intro k hk
  rcases h.2 with ⟨rfl, _⟩ | ⟨g, cap, cur, rfl, hB, hg, hr⟩
  · simp [Value.ownBlock] at hk
  · simp [Value.ownBlock] at hk
    omega
theorem two_new (w : World) (x y : Value) (t : TypeId) (H : Nat) (hH : w.heap.size = H) : ∀ (j : Nat) u, [x, y][j]? = some u → (w.alloc (.cells #[x, y] t)).cell? ((⟨H, 0, none⟩ : Addr).add j) = some u := by
  intro j u hj
  subst hH
  rw [Addr.add_lit, Nat.zero_add]
  match j, hj with
  | 0, hj => simp at hj; subst hj; simp
  | 1, hj => simp at hj; subst hj; simp
theorem goal_end {n b B gm cap : Nat} {w W WA w5 : World} {s : Ses} {v lv : Value} {a : Adr} (hs : SB W b s v lv) (ho : OwnL W B v s.to) (hn : n ≤ b) (hB : n ≤ B) (h0 : Below n w W) (hWA : Below W.heap.size W WA) (hg : WA.grownBy w5 v.ownBlock)
    (hown : w5.ownsRow B 23 2 (.slice (some ⟨gm, 0, none⟩) (s.to.length + 1) cap) (s.to.length + 1) (cellsL s.to ++ [.string (S a.1), .string (S a.2)])) :
    SesW ((w5.setCell ⟨b, 3, none⟩ (.slice (some ⟨gm, 0, none⟩) (s.to.length + 1) cap)).setCell ⟨b, 0, none⟩ (.int .i64 3)) b B ⟨3, s.frm, s.to ++ [a], s.text, s.large⟩ lv ∧
      Below n w ((w5.setCell ⟨b, 3, none⟩ (.slice (some ⟨gm, 0, none⟩) (s.to.length + 1) cap)).setCell ⟨b, 0, none⟩ (.int .i64 3)) := by
  have hlt := SB.lt hs
  have hbA : WA.heap[b]? = _ := lm_next hWA hs
  have hb5 : w5.heap[b]? = _ := (hg.block b (Nat.lt_of_lt_of_le hlt hWA.size) (own_ne ho hs)).trans hbA
  have h1 := lm_put (j := 3) (u := .slice (some ⟨gm, 0, none⟩) (s.to.length + 1) cap) hb5
  have h2 := lm_put (j := 0) (u := .int .i64 3) h1
  simp only [List.setIfInBounds_toArray, List.set_cons_zero, List.set_cons_succ] at h2
  have hO : OwnL w5 B (.slice (some ⟨gm, 0, none⟩) (s.to.length + 1) cap) (s.to ++ [a]) := by
    unfold OwnL
    rw [cellsL_snoc, List.length_append]
    exact hown
  refine ⟨⟨_, h2, own_other (own_other hO hb5) h1⟩, ?_⟩
  have hbl : Below n w w5 := (h0.trans (hWA.mono (by omega))).grown hg (by have := h0.size; have := hWA.size; omega) (fun k hk => Nat.le_trans hB (lm_base ho k hk))
  exact (hbl.setCell (p := ⟨b, 3, none⟩) hn _).setCell (p := ⟨b, 0, none⟩) hn _
set_option maxHeartbeats 4000000 in
set_option maxRecDepth 100000 in
theorem addGoal_any (n b B : Nat) (t : List UInt8) (known : List (List UInt8)) (kv : Value) (s : Ses) (lv : Value) (w : World) (h : SesW w b B s lv) (hn : n ≤ b) (hB : n ≤ B) (ht : t.length ≤ 2000) (hk : TxtsM (· < n) w kv known) (h5 : s.to.length ≤ 1000) (hBw : B ≤ w.heap.size) :
    Calls Try.prog 32 #[.pointer (some ⟨b, 0, none⟩), .string (S t), kv] w (ObP n b B w (rcptM s known t) lv) := by
  obtain ⟨ak, ck, rfl⟩ : ∃ a c, kv = .slice a known.length c := by obtain ⟨a, c, h, _⟩ := hk; exact ⟨a, c, h⟩
  obtain ⟨v, hs, ho⟩ := h
  obtain ⟨av, cv, rfl⟩ := ho.slice
  obtain ⟨⟨x0, x1, x2, x3, x4, x5, x6⟩, hfz⟩ := lm_box7 hs
  have HA := hid (addressOf_any t w ht)
  have HH := hid hk
  have HS := hid hs
  have HO := hid ho
  obtain ⟨k, hk2⟩ : ∃ k, k = s.step := ⟨_, rfl⟩
  rw [← hk2] at x0
  by_cases h23 : s.step = 2 ∨ s.step = 3
  · have HG := hid (show rcptM s known t = rcptTo s known (addrM t) by unfold rcptM; rw [if_pos h23])
    rw [← hk2] at h23
    obtain ⟨A, hA⟩ : ∃ A, A = addrM t := ⟨_, rfl⟩
    rw [← hA] at HA HG
    have h5' : (s.to.length : Int) ≤ 1000 := by omega
    obtain ⟨i0, hi', hz0, hz1, hz2⟩ := info_parts infoAdr
    clear hs ho hfz hk2 hA hk
    rcases h23 with rfl | rfl
    all_goals
      go_enter Try.func32, Try.ntmps32
      go_wp2_with fail
      refine HA.out.mono ?_
      rintro e u ⟨rfl, hb⟩
      have HB := hid (below_n HS.out hn hb)
      have HS2 := hid (lm_next hb HS.out)
      have HO2 := hid (own_next HO.out hb)
      have HNU := hid (show n ≤ u.heap.size from Nat.le_trans (Nat.le_trans hn (Nat.le_of_lt (SB.lt HS.out))) hb.size)
      clear hb x0 x1 x2 x3 x4 x5 x6
      cases A with
      | none =>
        simp only [adrV]
        have HE := hid (show ObP n b B w (rcptM s known t) lv (.returned (.int .i64 501)) (u.alloc (.cells #[.string ⟨#[]⟩, .string ⟨#[]⟩] 23)) by
          have hq : Below u.heap.size u (u.alloc (.cells #[.string ⟨#[]⟩, .string ⟨#[]⟩] 23)) := (Below.refl _ _).alloc (Nat.le_refl _) _
          rw [HG.out]
          exact ⟨rfl, ⟨_, lm_next hq HS2.out, own_next HO2.out hq⟩, HB.out.trans (hq.mono HNU.out)⟩)
        go_wp2
        go_ret
        exact HE.out
      | some a =>
        simp only [adrV]
        obtain ⟨W3, hW3⟩ : ∃ W3, W3 = u.alloc (.cells #[.string (S a.1), .string (S a.2)] 23) := ⟨_, rfl⟩
        have HWE3 := hid hW3
        have hq : Below u.heap.size u W3 := by rw [hW3]; exact (Below.refl _ _).alloc (Nat.le_refl _) _
        have HS3 := hid (show SB W3 b s (.slice av s.to.length cv) lv from lm_next hq HS2.out)
        have HO3 := hid (own_next HO2.out hq)
        have HB3 := hid (show Below n w W3 from HB.out.trans (hq.mono HNU.out))
        have hX3 : W3.heap[u.heap.size]? = some (.cells #[.string (S a.1), .string (S a.2)] 23) := by rw [hW3]; exact heap_alloc_new u _
        have HX3 := hid hX3
        obtain ⟨m0, m1⟩ := adr_box hX3
        have HCT := hid (containsT_any (· < n) known a.1 ak ck W3 (HH.out.nextB HB3.out))
        obtain ⟨q, hq1⟩ : ∃ q, q = known.contains a.1 := ⟨_, rfl⟩
        have HG1 := hid (show rcptTo s known (some a) = if q = false then (s, 550) else if s.to.contains a then (s, 250) else if 5 ≤ s.to.length then (s, 452) else (⟨3, s.frm, s.to ++ [a], s.text, s.large⟩, 250) by rw [hq1]; rfl)
        rw [← hq1] at HCT
        clear hW3 hq hX3 hq1 HS2 HO2 HB HNU
        go_upto_region 4 with fail
        rw [← HWE3.out]
        go_wp2_with fail
        refine HCT.out.mono ?_
        rintro e W4 ⟨rfl, hb4⟩
        have HS4 := hid (show SB W4 b s (.slice av s.to.length cv) lv from lm_next hb4 HS3.out)
        have HO4 := hid (own_next HO3.out hb4)
        have HB4 := hid (show Below n w W4 from HB3.out.trans (hb4.mono (Nat.le_trans hn (Nat.le_of_lt (SB.lt HS3.out)))))
        have HX4 := hid (lm_next hb4 HX3.out)
        clear hb4 m0 m1
        cases q with
        | false =>
          have HE := hid (show ObP n b B w (rcptM s known t) lv (.returned (.int .i64 550)) W4 by rw [HG.out, HG1.out]; exact ⟨rfl, ⟨_, HS4.out, HO4.out⟩, HB4.out⟩)
          go_wp2
          go_ret
          exact HE.out
        | true =>
          obtain ⟨⟨y0, y1, y2, y3, y4, y5, y6⟩, hgz⟩ := lm_box7 HS4.out
          obtain ⟨m0, m1⟩ := adr_box HX4.out
          have HCA := hid (fun u (hu : Below W4.heap.size W4 u) => containsA_any (B ≤ ·) s.to a av cv u ((own_next HO4.out hu).row (by unfold maxLen; omega)))
          obtain ⟨r, hr⟩ : ∃ r, r = s.to.contains a := ⟨_, rfl⟩
          rw [← hr] at HCA HG1
          clear hr hgz
          go_upto_region 8 with fail
          go_cut [37] (fun c wx => c = .bool r ∧ Below W4.heap.size W4 wx)
          case first =>
            go_region_held3 (fun w' => w'.cell? ⟨b, 3, none⟩ = some (.slice av s.to.length cv) ∧ w'.cell? ⟨u.heap.size, 0, none⟩ = some (.string (S a.1)) ∧ w'.cell? ⟨u.heap.size, 1, none⟩ = some (.string (S a.2))) (go_keep)
              (first
                | (go_at_call 39
                   with_reducible refine (HCA.out W4.drew ((Below.refl _ _).drew)).mono ?_
                   rintro e w5 ⟨rfl, hb⟩
                   have hb2 : Below W4.heap.size W4 w5 := (Below.refl _ _).drew.trans hb
                   have HB5 := hid hb2
                   have k0 := wcell_next y3 hb2
                   have k1 := wcell_next m0 hb2
                   have k2 := wcell_next m1 hb2
                   clear hb hb2)
                | fail)
            all_goals
              go_wp2_with fail
              go_meet
              exact ⟨by first | rfl | simp, HB5.out⟩
          case rest =>
            obtain ⟨rfl, hb⟩ := hcut
            have HS6 := hid (show SB wc b s (.slice av s.to.length cv) lv from lm_next hb HS4.out)
            have HO6 := hid (own_next HO4.out hb)
            have HB6 := hid (show Below n w wc from HB4.out.trans (hb.mono (Nat.le_trans hn (Nat.le_of_lt (SB.lt HS4.out)))))
            have HX6 := hid (lm_next hb HX4.out)
            clear hb y0 y1 y2 y3 y4 y5 y6 m0 m1
            cases r with
            | true =>
              have HE := hid (show ObP n b B w (rcptM s known t) lv (.returned (.int .i64 250)) wc by rw [HG.out, HG1.out]; exact ⟨rfl, ⟨_, HS6.out, HO6.out⟩, HB6.out⟩)
              go_wp2
              go_ret
              exact HE.out
            | false =>
              obtain ⟨⟨y0, y1, y2, y3, y4, y5, y6⟩, hgz⟩ := lm_box7 HS6.out
              obtain ⟨m0, m1⟩ := adr_box HX6.out
              have g0 := hgz 0
              have g3 := hgz 3
              clear hgz
              by_cases h55 : 5 ≤ s.to.length
              · have h56 : (5 : Int) ≤ (s.to.length : Int) := by omega
                have HE := hid (show ObP n b B w (rcptM s known t) lv (.returned (.int .i64 452)) wc by rw [HG.out, HG1.out, if_neg (by simp), if_neg (by simp), if_pos h55]; exact ⟨rfl, ⟨_, HS6.out, HO6.out⟩, HB6.out⟩)
                go_wp2
                go_ret
                exact HE.out
              · have h56 : ¬ (5 : Int) ≤ (s.to.length : Int) := by omega
                have HG2 := hid (show rcptM s known t = (⟨3, s.frm, s.to ++ [a], s.text, s.large⟩, 250) by rw [HG.out, HG1.out, if_neg (by simp), if_neg (by simp), if_neg h55])
                have HBB := hid (SB.lt HS6.out)
                have HBW := hid (show B ≤ wc.heap.size from Nat.le_trans hBw HB6.out.size)
                have HNE := hid (own_ne HO6.out HS6.out)
                have HLEN := hid (cellsL_length s.to)
                have y3a : ∀ o : Obj, (wc.alloc o).cell? ⟨b, 3, none⟩ = some (.slice av s.to.length cv) := fun o => wcell_more y3 o
                have m0a : ∀ o : Obj, (wc.alloc o).cell? ⟨u.heap.size, 0, none⟩ = some (.string (S a.1)) := fun o => wcell_more m0 o
                have m1a : ∀ o : Obj, (wc.alloc o).cell? ⟨u.heap.size, 1, none⟩ = some (.string (S a.2)) := fun o => wcell_more m1 o
                clear h55
                go_wp2
                go_region_law
                  (first
                    | (refine step_append_lies _ (by rfl) _ _ _ (by rfl) B 23 i0 _ 2 32 Try.underlying24 hi' hz0 hz1 hz2 rfl (by omega) (.slice av s.to.length cv) s.to.length (cellsL s.to) (by rfl) (by first | exact World.ownsRow.alloc (show World.ownsRow wc.drew _ _ _ _ _ _ from HO6.out) _ | exact (World.ownsRow.alloc HO6.out _).drew)
                         ⟨wc.heap.size, 0, none⟩ 1 1 [.string (S a.1), .string (S a.2)] (by rfl) (by rfl) (by first | exact two_new wc.drew _ _ _ _ rfl | exact two_new wc _ _ _ _ rfl) (by simp [Value.oneCell']) (by omega) (by unfold maxLen; omega) (by omega) (by have := HBW.out; simp; omega) _ rfl ?_
                       intro gm cap w5 hown5 hgrow hat hlt5
                       have z3 := hgrow.cell (a := ⟨b, 3, none⟩) (wcell_more (w := wc.drew) y3 _) HNE.out
                       have z0 := hgrow.cell (a := ⟨b, 0, none⟩) (wcell_more (w := wc.drew) y0 _) HNE.out
                       have HWA := hid (show Below wc.heap.size wc (wc.drew.alloc (.cells #[.string (S a.1), .string (S a.2)] 23)) from (Below.refl _ wc).drew.alloc (Nat.le_refl _) _)
                       have hb5 := (hgrow.block b (Nat.lt_of_lt_of_le HBB.out HWA.out.size) HNE.out).trans (lm_next HWA.out HS6.out)
                       have zf3 := lm_frz hb5 3
                       have zf0 := lm_frz hb5 0
                       have HEN := hid (goal_end HS6.out HO6.out hn hB HB6.out HWA.out hgrow hown5)
                       clear hown5 hgrow hat hb5)
                    | fail)
                all_goals
                  have HF := hid (show ObP n b B w (rcptM s known t) lv (.returned (.int .i64 250)) ((w5.setCell ⟨b, 3, none⟩ (.slice (some ⟨gm, 0, none⟩) (s.to.length + 1) cap)).setCell ⟨b, 0, none⟩ (.int .i64 3)) by rw [HG2.out]; exact ⟨rfl, HEN.out.1, HEN.out.2⟩)
                  go_wp2
                  go_ret
                  exact HF.out
  · have HE := hid (show ObP n b B w (rcptM s known t) lv (.returned (.int .i64 503)) w by
      unfold rcptM
      rw [if_neg h23]
      exact ⟨rfl, ⟨_, hs, ho⟩, Below.refl _ _⟩)
    rw [← hk2] at h23
    have h2 : (k != 2) = true := by simp; omega
    have h3 : (k != 3) = true := by simp; omega
    clear hs ho hfz hk2 h23
    go_enter Try.func32, Try.ntmps32
    go_wp2
    go_ret
    exact HE.out
end Go.Proofs.Ytkdmccgfehmoaaa
