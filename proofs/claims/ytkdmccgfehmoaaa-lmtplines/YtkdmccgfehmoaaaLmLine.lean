/-
  What lmtp.Line does: the walk.
-/
import Derived.Test.YtkdmccgfehmoaaaLmRead
import Derived.Test.YtkdmccgfehmoaaaLmObey
import Derived.Test.YtkdmccgfehmoaaaLmGo
namespace Go.Proofs.Ytkdmccgfehmoaaa
open Go.RowKit Go.Proofs

/-- What Line hands back. -/
def LnP (w : World) (s : Ses) (known : List (List UInt8)) (line : List UInt8) (e : Ending) (w' : World) : Prop :=
  (mayS s = true → ∃ v lv, e = .returned (.tuple #[sesV (lineM s known line).1 v, .int .i64 (lineM s known line).2.1, lv, .int .i64 0]) ∧ OwnL w' w.heap.size v (lineM s known line).1.to ∧ OwnT w' w.heap.size lv (lineM s known line).2.2) ∧
  (mayS s = false → e = .returned (.tuple #[sesV (atS 0) (.slice none 0 0), .int .i64 0, .slice none 0 0, .int .i64 11])) ∧ Below w.heap.size w w'
theorem ownT_from {w : World} {B B' : Nat} {v : Value} {l : List Ltr} (h : OwnT w B v l) (hb : B' ≤ B) : OwnT w B' v l := by
  unfold OwnT at *
  refine ⟨h.1, ?_⟩
  rcases h.2 with h' | ⟨g, cap, cur, hv, hB, hg, hr⟩
  · exact .inl h'
  · exact .inr ⟨g, cap, cur, hv, by omega, hg, hr⟩
theorem ownT_low {w : World} {B b j : Nat} {v u : Value} {l : List Ltr} (h : OwnT w B v l) (hb : b < B) : OwnT (w.setCell ⟨b, j, none⟩ u) B v l := by
  unfold OwnT at *
  refine ⟨h.1, ?_⟩
  rcases h.2 with h' | ⟨g, cap, cur, hv, hB, hg, hr⟩
  · exact .inl h'
  · exact .inr ⟨g, cap, cur, hv, hB, (Below.heap_setCell _ _ _ _ (show g ≠ b by omega)).trans hg, hr⟩
theorem six_put' {W : World} {p : Nat} {u0 u1 u2 u3 u4 u5 v0 v1 v2 v3 v4 v5 : Value} {t : TypeId} (h : W.heap[p]? = some (.cells #[u0, u1, u2, u3, u4, u5] t)) : ((((((W.setCell ⟨p, 0, none⟩ v0).setCell ⟨p, 1, none⟩ v1).setCell ⟨p, 2, none⟩ v2).setCell ⟨p, 3, none⟩ v3).setCell ⟨p, 4, none⟩ v4).setCell ⟨p, 5, none⟩ v5).heap[p]? = some (.cells #[v0, v1, v2, v3, v4, v5] t) := by
  have := lm_put (j := 5) (u := v5) (lm_put (j := 4) (u := v4) (lm_put (j := 3) (u := v3) (lm_put (j := 2) (u := v2) (lm_put (j := 1) (u := v1) (lm_put (j := 0) (u := v0) h)))))
  simp only [List.setIfInBounds_toArray, List.set_cons_succ, List.set_cons_zero] at this
  exact this
theorem ses_frz {w : World} {b : Nat} {cs : Array Value} {t : TypeId} (h : w.heap[b]? = some (.cells cs t)) : w.frozen? ⟨b, 0, none⟩ = false ∧ w.frozen? ⟨b, 1, none⟩ = false ∧ w.frozen? ⟨b, 2, none⟩ = false ∧ w.frozen? ⟨b, 3, none⟩ = false ∧ w.frozen? ⟨b, 4, none⟩ = false ∧ w.frozen? ⟨b, 5, none⟩ = false := by
  simp [World.frozen?, h]
/-- The world behind Line: what it hands back is stored. -/
def outW (w : World) (p : Nat) (s : Ses) (v : Value) : World := (((((w.setCell ⟨p, 0, none⟩ (.int .i64 s.step)).setCell ⟨p, 1, none⟩ (.string (S s.frm.1))).setCell ⟨p, 2, none⟩ (.string (S s.frm.2))).setCell ⟨p, 3, none⟩ v).setCell ⟨p, 4, none⟩ (.string (S s.text))).setCell ⟨p, 5, none⟩ (.bool s.large)
theorem own_drew {w : World} {B : Nat} {v : Value} {l : List Adr} (h : OwnL w B v l) : OwnL w.drew B v l := h
theorem ownT_drew {w : World} {B : Nat} {v : Value} {l : List Ltr} (h : OwnT w B v l) : OwnT w.drew B v l := h
theorem drew_at {w : World} {b : Nat} {x : Option Obj} (h : w.heap[b]? = x) : w.drew.heap[b]? = x := h
theorem lnp_end {w w5 : World} {s r : Ses} {known : List (List UInt8)} {line : List UInt8} {c : Int} {v lv : Value} {B H : Nat} {ls : List Ltr} (hm : mayS s = true) (hl : lineM s known line = (r, c, ls)) (ho : OwnL w5 B v r.to) (ht : OwnT w5 H lv ls) (hB : w.heap.size + 2 ≤ B) (hH : w.heap.size + 2 ≤ H) (hb : Below w.heap.size w w5) :
    LnP w s known line (.returned (.tuple #[sesV r v, .int .i64 c, lv, .int .i64 0])) (outW w5 (w.heap.size + 1) r v).drew := by
  refine ⟨fun _ => ?_, (fun h => by rw [hm] at h; cases h), ?_⟩
  · rw [hl]
    have h1 : w.heap.size + 1 < B := by omega
    have h2 : w.heap.size + 1 < H := by omega
    exact ⟨v, lv, rfl, own_drew (own_from (own_low (own_low (own_low (own_low (own_low (own_low ho h1) h1) h1) h1) h1) h1) (by omega)), ownT_drew (ownT_from (ownT_low (ownT_low (ownT_low (ownT_low (ownT_low (ownT_low ht h2) h2) h2) h2) h2) h2) (by omega))⟩
  · exact (hb.trans (low7 w5 _ _ _ _ _ _ (Nat.le_succ _))).drew
set_option maxHeartbeats 4000000 in
set_option maxRecDepth 100000 in
theorem line_any (Q : Nat → Prop) (s : Ses) (v kv : Value) (known : List (List UInt8)) (line : List UInt8) (w : World) (hf : Fit s) (hv : Roomy v) (ha : AdrsM Q w v s.to) (hk : TxtsM Q w kv known) (hl : line.length ≤ 140737488355328) :
    Calls Try.prog 8 #[sesV s v, kv, .string (S line)] w (LnP w s known line) := by
  obtain ⟨av, cv, rfl⟩ : ∃ a c, v = .slice a s.to.length c := by obtain ⟨a, c, h, _⟩ := ha; exact ⟨a, c, h⟩
  obtain ⟨ak, ck, rfl⟩ : ∃ a c, kv = .slice a known.length c := by obtain ⟨a, c, h, _⟩ := hk; exact ⟨a, c, h⟩
  obtain ⟨W1, hW1⟩ : ∃ W1, W1 = (w.alloc (.cells #[.int .i64 s.step, .string (S s.frm.1), .string (S s.frm.2), .slice av s.to.length cv, .string (S s.text), .bool s.large] 26)).alloc (.cells #[.int .i64 0, .string ⟨#[]⟩, .string ⟨#[]⟩, .slice none 0 0, .string ⟨#[]⟩, .bool false] 26) := ⟨_, rfl⟩
  have HWE := hid hW1
  have hB1 : Below w.heap.size w W1 := by rw [hW1]; exact ((Below.refl _ _).alloc (Nat.le_refl _) _).alloc (by simp) _
  have HB1 := hid hB1
  have hX0 : W1.heap[w.heap.size]? = some (.cells #[.int .i64 s.step, .string (S s.frm.1), .string (S s.frm.2), .slice av s.to.length cv, .string (S s.text), .bool s.large] 26) := by rw [hW1]; exact heap_old _ (heap_alloc_new w _)
  have hX1 : W1.heap[w.heap.size + 1]? = some (.cells #[.int .i64 0, .string ⟨#[]⟩, .string ⟨#[]⟩, .slice none 0 0, .string ⟨#[]⟩, .bool false] 26) := by rw [hW1]; exact heap_at _ (by simp)
  have HZ := hid (show W1.heap.size = w.heap.size + 2 by rw [hW1]; simp)
  have HX0 := hid hX0
  have HX1 := hid hX1
  have HA := hid (ha.next hB1)
  have HK := hid (show TxtsM (· < W1.heap.size) W1 (.slice ak known.length ck) known from by
    obtain ⟨a, c, h1, h2, h3⟩ := hk
    refine ⟨a, c, h1, h2, fun i x hx => ?_⟩
    obtain ⟨b, o, cs, e1, e2, _, e4, e5, e6⟩ := h3 i x hx
    exact ⟨b, o, cs, e1, Nat.lt_of_lt_of_le e2 hB1.size, Nat.lt_of_lt_of_le e2 hB1.size, e4, fun j u hj => (hB1.cell (p := ⟨b, o + i * 1 + j, none⟩) e2).trans (e5 j u hj), e6⟩)
  have HCK := hid (lmCheck_any Q s (.slice av s.to.length cv) W1 hf hv HA.out)
  have HFT := hid hf.txt
  obtain ⟨x0, x1, x2, x3, x4, x5⟩ := ses_box hX0
  obtain ⟨m, hm⟩ : ∃ m, m = mayS s := ⟨_, rfl⟩
  rw [← hm] at HCK
  have HM := hid hm
  clear hW1 hX0 hX1 hB1 ha hk hf hv hm
  unfold sesV at HCK ⊢
  cases m with
  | false =>
    go_enter Try.func8, Try.ntmps8
    go_upto_region 1 with fail
    rw [← HWE.out]
    go_wp2_with fail
    refine HCK.out.mono ?_
    rintro e w2 ⟨rfl, hb2⟩
    have hY1 := lm_next hb2 HX1.out
    obtain ⟨y0, y1, y2, y3, y4, y5⟩ := ses_box hY1
    obtain ⟨f0, f1, f2, f3, f4, f5⟩ := ses_frz hY1
    have hR := six_put' (v0 := .int .i64 0) (v1 := .string ⟨#[]⟩) (v2 := .string ⟨#[]⟩) (v3 := .slice none 0 0) (v4 := .string ⟨#[]⟩) (v5 := .bool false) hY1
    have HR := hid hR
    have HE := hid (show LnP w s known line (.returned (.tuple #[.agg #[.int .i64 0, .string ⟨#[]⟩, .string ⟨#[]⟩, .slice none 0 0, .string ⟨#[]⟩, .bool false], .int .i64 0, .slice none 0 0, .int .i64 11])) (outW w2 (w.heap.size + 1) (atS 0) (.slice none 0 0)) from
      ⟨(fun h => by rw [← HM.out] at h; cases h), (fun _ => rfl), (HB1.out.trans (hb2.mono HB1.out.size)).trans (low7 w2 _ _ _ _ _ _ (Nat.le_succ _))⟩)
    clear hb2 hY1 hR x0 x1 x2 x3 x4 x5
    simp only [Bool.false_eq_true, if_false]
    go_wp2
    obtain ⟨r0, r1, r2, r3, r4, r5⟩ := ses_box HR.out
    clear y0 y1 y2 y3 y4 y5 f0 f1 f2 f3 f4 f5
    refine bodyPost_ret (v := .tuple #[.agg #[.int .i64 0, .string ⟨#[]⟩, .string ⟨#[]⟩, .slice none 0 0, .string ⟨#[]⟩, .bool false], .int .i64 0, .slice none 0 0, .int .i64 11]) (by simp [results, Try.results8, go_sem, *]) rfl ?_
    exact HE.out
  | true =>
    have h5 : s.to.length ≤ 5 := by
      have h := (mayS_parts.1 HM.out.symm).2.2.2.1
      unfold goalsS at h
      split at h
      · have : s.to = [] := by simpa using h
        rw [this]; simp
      · simp only [Bool.and_eq_true, decide_eq_true_eq] at h
        exact h.1.2
    have HT2 := hid (show s.text.length ≤ 2000 by
      have h := (mayS_parts.1 HM.out.symm).2.2.2.2
      unfold textS at h
      split at h
      · simpa using h
      · simp only [Bool.and_eq_true] at h
        have : s.text = [] := by simpa using h.1
        rw [this]; simp)
    go_enter Try.func8, Try.ntmps8
    go_upto_region 1 with fail
    rw [← HWE.out]
    go_wp2_with fail
    refine HCK.out.mono ?_
    rintro e w2 ⟨rfl, hb2⟩
    have hY0 := lm_next hb2 HX0.out
    have HY1 := hid (lm_next hb2 HX1.out)
    obtain ⟨y0, y1, y2, y3, y4, y5⟩ := ses_box hY0
    have HGO := hid (goOnFrom_any Q s (.slice av s.to.length cv) w2 (HA.out.next hb2) (by omega))
    unfold sesV at HGO
    have HB2 := hid hb2
    clear hb2 hY0 x0 x1 x2 x3 x4 x5
    simp only [if_true]
    go_wp2_with fail
    refine HGO.out.mono ?_
    rintro e w3 ⟨v', rfl, ho3, hb3⟩
    obtain ⟨a', c', rfl⟩ := ho3.slice
    obtain ⟨b, hb⟩ : ∃ b, b = w3.heap.size := ⟨_, rfl⟩
    obtain ⟨W4, hW4⟩ : ∃ W4, W4 = w3.alloc (.cells #[.int .i64 s.step, .string (S s.frm.1), .string (S s.frm.2), .slice a' s.to.length c', .string (S s.text), .bool s.large, .slice none 0 0] 43) := ⟨_, rfl⟩
    have HWE4 := hid hW4
    have hB4 : Below w3.heap.size w3 W4 := by rw [hW4]; exact (Below.refl _ _).alloc (Nat.le_refl _) _
    have hS4 : SB W4 b s (.slice a' s.to.length c') (.slice none 0 0) := by rw [hW4, hb]; exact heap_alloc_new w3 _
    have HB23 := hid (hb3.trans (hB4.mono hb3.size))
    have HB14 := hid (show Below W1.heap.size W1 W4 from HB2.out.trans (HB23.out.mono HB2.out.size))
    have HS4 := hid hS4
    have HO4 := hid (own_next ho3 hB4)
    have HSW := hid (show SesW W4 b w2.heap.size s (.slice none 0 0) from ⟨_, hS4, own_next ho3 hB4⟩)
    have HN1 := hid (show W1.heap.size ≤ b by rw [hb]; exact Nat.le_trans HB2.out.size hb3.size)
    have HN2 := hid (show W1.heap.size ≤ w2.heap.size from HB2.out.size)
    have HBE := hid hb
    have HLN := hid (show w2.heap.size ≤ W4.heap.size from HB23.out.size)
    clear hW4 hB4 hS4 ho3 hb3 hb y0 y1 y2 y3 y4 y5
    obtain ⟨⟨z0, z1, z2, z3, z4, z5, z6⟩, _⟩ := lm_box7 HS4.out
    have hcase : s.step = 5 ∨ s.step = 4 ∨ (¬ s.step = 5 ∧ ¬ s.step = 4) := by omega
    go_upto_region 5 with fail
    rw [← HWE4.out, ← HBE.out]
    rcases hcase with h | h | h
    case' inl =>
      have HL := hid (show lineM s known line = (s, 0, []) by unfold lineM; rw [if_pos h])
      have e5 : (s.step == 5) = true := by simp [h]
      obtain ⟨w5, hw5⟩ : ∃ w5, w5 = W4 := ⟨_, rfl⟩
      obtain ⟨r, hr⟩ : ∃ r, r = s := ⟨_, rfl⟩
      obtain ⟨c, hc⟩ : ∃ c : Int, c = 0 := ⟨_, rfl⟩
      obtain ⟨lv, hlv⟩ : ∃ lv, lv = Value.slice none 0 0 := ⟨_, rfl⟩
      obtain ⟨ls, hls⟩ : ∃ ls, ls = ([] : List Ltr) := ⟨_, rfl⟩
      have HT5 := hid (show OwnT w5 W4.heap.size lv ls by rw [hlv, hls]; exact OwnT.nil _ _)
      have HSW5 := hid (show SesW w5 b w2.heap.size r lv by rw [hw5, hr, hlv]; exact HSW.out)
      have HB5 := hid (show Below W1.heap.size W1 w5 by rw [hw5]; exact HB14.out)
      have HL5 := hid (show lineM s known line = (r, c, ls) by rw [HL.out, hr, hc, hls])
      have HCC := hid hc
      have HCW := hid hw5
      clear hw5 hr hc hlv hls
      go_upto_region 10 with fail
      rw [← HCW.out]
    case' inr.inl =>
      have HL := hid (show lineM s known line = ((bodyM s line).1, 0, (bodyM s line).2) by unfold lineM; rw [if_neg (by omega), if_pos h])
      have e5 : (s.step == 5) = false := by simp [h]
      have e4 : (s.step == 4) = true := by simp [h]
      have HX := hid (read_any W1.heap.size b w2.heap.size line s W4 HSW.out HN1.out (by omega) hl HT2.out)
      clear h
      go_wp2_with fail
      refine HX.out.mono ?_
      rintro e w5 ⟨rfl, lv, hw5, ht5, hb5⟩
      obtain ⟨r, hr⟩ : ∃ r, r = (bodyM s line).1 := ⟨_, rfl⟩
      obtain ⟨c, hc⟩ : ∃ c : Int, c = 0 := ⟨_, rfl⟩
      obtain ⟨ls, hls⟩ : ∃ ls, ls = (bodyM s line).2 := ⟨_, rfl⟩
      rw [← hr] at hw5
      rw [← hls] at ht5
      have HT5 := hid ht5
      have HSW5 := hid hw5
      have HB5 := hid (show Below W1.heap.size W1 w5 from HB14.out.trans hb5)
      have HL5 := hid (show lineM s known line = (r, c, ls) by rw [HL.out, hr, hc, hls])
      have HCC := hid hc
      clear hw5 ht5 hb5 hr hc hls
      go_upto_region 10 with fail
    case' inr.inr =>
      have HL := hid (show lineM s known line = ((cmdM s known line).1, (cmdM s known line).2, []) by unfold lineM; rw [if_neg h.1, if_neg h.2])
      have e5 : (s.step == 5) = false := by simp [h.1]
      have e4 : (s.step == 4) = false := by simp [h.2]
      have HX := hid (obey_any W1.heap.size b w2.heap.size line known (.slice ak known.length ck) s (.slice none 0 0) W4 HSW.out HN1.out HN2.out hl (HK.out.nextB HB14.out) (by omega) HLN.out)
      clear h
      go_wp2_with fail
      refine HX.out.mono ?_
      rintro e w5 ⟨rfl, hw5, hb5⟩
      obtain ⟨lv, hlv⟩ : ∃ lv, lv = Value.slice none 0 0 := ⟨_, rfl⟩
      obtain ⟨r, hr⟩ : ∃ r, r = (cmdM s known line).1 := ⟨_, rfl⟩
      obtain ⟨c, hc⟩ : ∃ c : Int, c = (cmdM s known line).2 := ⟨_, rfl⟩
      obtain ⟨ls, hls⟩ : ∃ ls, ls = ([] : List Ltr) := ⟨_, rfl⟩
      rw [← hr, ← hlv] at hw5
      have HT5 := hid (show OwnT w5 W4.heap.size lv ls by rw [hlv, hls]; exact OwnT.nil _ _)
      have HSW5 := hid hw5
      have HB5 := hid (show Below W1.heap.size W1 w5 from HB14.out.trans hb5)
      have HL5 := hid (show lineM s known line = (r, c, ls) by rw [HL.out, hr, hc, hls])
      have HCC := hid hc
      clear hw5 hb5 hr hc hls hlv
      go_upto_region 10 with fail
    all_goals
      clear z0 z1 z2 z3 z4 z5 z6
      obtain ⟨v5, hs5, ho5⟩ := HSW5.out
      obtain ⟨a5, c5, rfl⟩ := ho5.slice
      obtain ⟨⟨z0, z1, z2, z3, z4, z5, z6⟩, _⟩ := lm_box7 hs5
      have hz := HZ.out
      have hne1 : b ≠ w.heap.size + 1 := by have := HN1.out; omega
      have hne2 : w.heap.size + 1 ≠ b := fun e => hne1 e.symm
      have hY5 : w5.heap[w.heap.size + 1]? = _ := lm_low HB5.out HX1.out (by omega)
      obtain ⟨y0, y1, y2, y3, y4, y5⟩ := ses_box hY5
      obtain ⟨f0, f1, f2, f3, f4, f5⟩ := ses_frz hY5
      have HR := hid (six_put' (W := w5) (v0 := .int .i64 r.step) (v1 := .string (S r.frm.1)) (v2 := .string (S r.frm.2)) (v3 := .slice a5 r.to.length c5) (v4 := .string (S r.text)) (v5 := .bool r.large) hY5)
      have HE := hid (lnp_end (w5 := w5) HM.out.symm HL5.out ho5 HT5.out (by have := HN2.out; omega) (by have := HB14.out.size; omega) (HB1.out.trans (HB5.out.mono HB1.out.size)))
      unfold sesV outW at HE
      clear hs5 ho5 hz hY5
      go_region_held3 (fun w' => w'.cell? ⟨b, 0, none⟩ = some (.int .i64 r.step) ∧ w'.cell? ⟨b, 1, none⟩ = some (.string (S r.frm.1)) ∧ w'.cell? ⟨b, 2, none⟩ = some (.string (S r.frm.2)) ∧ w'.cell? ⟨b, 3, none⟩ = some (.slice a5 r.to.length c5) ∧ w'.cell? ⟨b, 4, none⟩ = some (.string (S r.text)) ∧ w'.cell? ⟨b, 5, none⟩ = some (.bool r.large) ∧ w'.cell? ⟨b, 6, none⟩ = some lv) (go_keep) (fail)
      all_goals
        go_wp2
        obtain ⟨r0, r1, r2, r3, r4, r5⟩ := ses_box (drew_at HR.out)
        clear y0 y1 y2 y3 y4 y5 f0 f1 f2 f3 f4 f5 z0 z1 z2 z3 z4 z5 z6
        have hcc := HCC.out
        refine bodyPost_ret (v := .tuple #[.agg #[.int .i64 r.step, .string (S r.frm.1), .string (S r.frm.2), .slice a5 r.to.length c5, .string (S r.text), .bool r.large], .int .i64 c, lv, .int .i64 0]) (by simp [results, Try.results8, go_sem, *]) rfl ?_
        exact HE.out
end Go.Proofs.Ytkdmccgfehmoaaa
