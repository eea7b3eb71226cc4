/-
  What lmtp.Line does: the walk.
-/
import Derived.Test.YtmgdnhjemhhleaaGreatDoorOQLmCmd8
set_option maxHeartbeats 4000000
set_option maxRecDepth 100000
namespace Go.Proofs.YtmgdnhjemhhleaaGreatDoor
open Go.RowKit Go.Proofs
def LnP (w : World) (s : Ses) (known : List (List UInt8)) (line : List UInt8) (e : Ending) (w' : World) : Prop :=
 (mayS s = true → ∃ v lv, e = .returned (.tuple #[sesV (jH s known line).1 v, .int .i64 (jH s known line).2.1, lv, .int .i64 0]) ∧ OwnL w' w.heap.size v (jH s known line).1.to ∧ LOwnT w' w.heap.size lv (jH s known line).2.2) ∧
 (mayS s = false → e = .returned (.tuple #[sesV (atS 0) (.slice none 0 0), .int .i64 0, .slice none 0 0, .int .i64 11])) ∧ Below w.heap.size w w'
theorem jb6 {w : World} {B B' : Nat} {v : Value} {l : List Ltr} (h : LOwnT w B v l) (hb : B' ≤ B) : LOwnT w B' v l := by
 unfold LOwnT at *; refine ⟨h.1, ?_⟩
 rcases h.2 with h' | ⟨g, cap, cur, hv, hB, hg, hr⟩
 · exact .inl h'
 · exact .inr ⟨g, cap, cur, hv, by omega, hg, hr⟩
theorem zv {w : World} {B b j : Nat} {v u : Value} {l : List Ltr} (h : LOwnT w B v l) (hb : b < B) : LOwnT (w.setCell ⟨b, j, none⟩ u) B v l := by
 unfold LOwnT at *; refine ⟨h.1, ?_⟩
 rcases h.2 with h' | ⟨g, cap, cur, hv, hB, hg, hr⟩
 · exact .inl h'
 · exact .inr ⟨g, cap, cur, hv, hB, (Below.heap_setCell _ _ _ _ (show g ≠ b by omega)).trans hg, hr⟩
theorem jdK {W : World} {p : Nat} {u0 u1 u2 u3 u4 u5 v0 v1 v2 v3 v4 v5 : Value} {t : TypeId} (h : W.heap[p]? = some (.cells #[u0, u1, u2, u3, u4, u5] t)) : ((((((W.setCell ⟨p, 0, none⟩ v0).setCell ⟨p, 1, none⟩ v1).setCell ⟨p, 2, none⟩ v2).setCell ⟨p, 3, none⟩ v3).setCell ⟨p, 4, none⟩ v4).setCell ⟨p, 5, none⟩ v5).heap[p]? = some (.cells #[v0, v1, v2, v3, v4, v5] t) := by
 have := j5 (j := 5) (u := v5) (j5 (j := 4) (u := v4) (j5 (j := 3) (u := v3) (j5 (j := 2) (u := v2) (j5 (j := 1) (u := v1) (j5 (j := 0) (u := v0) h))))); simp only [List.setIfInBounds_toArray, List.set_cons_succ, List.set_cons_zero] at this; exact this
theorem jfD {w : World} {b : Nat} {cs : Array Value} {t : TypeId} (h : w.heap[b]? = some (.cells cs t)) : w.frozen? ⟨b, 0, none⟩ = false ∧ w.frozen? ⟨b, 1, none⟩ = false ∧ w.frozen? ⟨b, 2, none⟩ = false ∧ w.frozen? ⟨b, 3, none⟩ = false ∧ w.frozen? ⟨b, 4, none⟩ = false ∧ w.frozen? ⟨b, 5, none⟩ = false := by
 simp [World.frozen?, h]
def outW (w : World) (p : Nat) (s : Ses) (v : Value) : World := (((((w.setCell ⟨p, 0, none⟩ (.int .i64 s.step)).setCell ⟨p, 1, none⟩ (.string (S s.frm.1))).setCell ⟨p, 2, none⟩ (.string (S s.frm.2))).setCell ⟨p, 3, none⟩ v).setCell ⟨p, 4, none⟩ (.string (S s.text))).setCell ⟨p, 5, none⟩ (.bool s.large)
theorem jkD {w : World} {B : Nat} {v : Value} {l : List Adr} (h : OwnL w B v l) : OwnL w.drew B v l := h
theorem jiZ {w : World} {B : Nat} {v : Value} {l : List Ltr} (h : LOwnT w B v l) : LOwnT w.drew B v l := h
theorem jic {w : World} {b : Nat} {x : Option Obj} (h : w.heap[b]? = x) : w.drew.heap[b]? = x := h
theorem jmk {w w5 : World} {s r : Ses} {known : List (List UInt8)} {line : List UInt8} {c : Int} {v lv : Value} {B H : Nat} {ls : List Ltr} (hm : mayS s = true) (hl : jH s known line = (r, c, ls)) (ho : OwnL w5 B v r.to) (ht : LOwnT w5 H lv ls) (hB : w.heap.size + 2 ≤ B) (hH : w.heap.size + 2 ≤ H) (hb : Below w.heap.size w w5) :
 LnP w s known line (.returned (.tuple #[sesV r v, .int .i64 c, lv, .int .i64 0])) (outW w5 (w.heap.size + 1) r v).drew := by
 refine ⟨fun _ => ?_, (fun h => by rw [hm] at h; cases h), ?_⟩
 · rw [hl]; have h1 : w.heap.size + 1 < B := by omega
   have h2 : w.heap.size + 1 < H := by omega
   exact ⟨v, lv, rfl, jkD (jaE (j7 (j7 (j7 (j7 (j7 (j7 ho h1) h1) h1) h1) h1) h1) (by omega)), jiZ (jb6 (zv (zv (zv (zv (zv (zv ht h2) h2) h2) h2) h2) h2) (by omega))⟩
 · exact (hb.trans (low7 w5 _ _ _ _ _ _ (Nat.le_succ _))).drew
theorem jkn (Q : Nat → Prop) (s : Ses) (v kv : Value) (known : List (List UInt8)) (line : List UInt8) (w : World) (hf : Fit s) (hv : jap v) (ha : AdrsM Q w v s.to) (hk : TxtsM Q w kv known) (hl : line.length ≤ 140737488355328) :
 Calls Tryz.prog 72 #[sesV s v, kv, .string (S line)] w (LnP w s known line) := by
 obtain ⟨av, cv, rfl⟩ : ∃ a c, v = .slice a s.to.length c := by obtain ⟨a, c, h, _⟩ := ha; exact ⟨a, c, h⟩
 obtain ⟨ak, ck, rfl⟩ : ∃ a c, kv = .slice a known.length c := by obtain ⟨a, c, h, _⟩ := hk; exact ⟨a, c, h⟩
 obtain ⟨W1, hW1⟩ : ∃ W1, W1 = (w.alloc (.cells #[.int .i64 s.step, .string (S s.frm.1), .string (S s.frm.2), .slice av s.to.length cv, .string (S s.text), .bool s.large] 79)).alloc (.cells #[.int .i64 0, .string ⟨#[]⟩, .string ⟨#[]⟩, .slice none 0 0, .string ⟨#[]⟩, .bool false] 79) := ⟨_, rfl⟩; have HWE := hid hW1; have hB1 : Below w.heap.size w W1 := by rw [hW1]; exact (nb0 _ _).alloc (by simp) _
 have HB1 := hid hB1; have hX0 : W1.heap[w.heap.size]? = some (.cells #[.int .i64 s.step, .string (S s.frm.1), .string (S s.frm.2), .slice av s.to.length cv, .string (S s.text), .bool s.large] 79) := by rw [hW1]; exact jby _ (heap_alloc_new w _)
 have hX1 : W1.heap[w.heap.size + 1]? = some (.cells #[.int .i64 0, .string ⟨#[]⟩, .string ⟨#[]⟩, .slice none 0 0, .string ⟨#[]⟩, .bool false] 79) := by rw [hW1]; exact jdq _ (by simp)
 have HZ := hid (show W1.heap.size = w.heap.size + 2 by rw [hW1]; simp); have HX0 := hid hX0; have HX1 := hid hX1; have HA := hid (ha.next hB1); have HK := hid (show TxtsM (· < W1.heap.size) W1 (.slice ak known.length ck) known from by
  obtain ⟨a, c, h1, h2, h3⟩ := hk; refine ⟨a, c, h1, h2, fun i x hx => ?_⟩; obtain ⟨b, o, cs, e1, e2, _, e4, e5, e6⟩ := h3 i x hx; exact ⟨b, o, cs, e1, Nat.lt_of_lt_of_le e2 hB1.size, Nat.lt_of_lt_of_le e2 hB1.size, e4, fun j u hj => (hB1.cell (p := ⟨b, o + i * 1 + j, none⟩) e2).trans (e5 j u hj), e6⟩)
 have HCK := hid (jfn Q s (.slice av s.to.length cv) W1 hf hv HA.out); have HFT := hid hf.txt; obtain ⟨x0, x1, x2, x3, x4, x5⟩ := zL hX0; obtain ⟨m, hm⟩ : ∃ m, m = mayS s := ⟨_, rfl⟩; rw [← hm] at HCK; have HM := hid hm; clear hW1 hX0 hX1 hB1 ha hk hf hv hm; unfold sesV at HCK ⊢; cases m with
 | false =>
   go_enter Tryz.func72, Tryz.ntmps72; go_upto_region 1 with fail
   rw [← HWE.out]; go_wp2_with fail; refine HCK.out.mono ?_; rintro e w2 ⟨rfl, hb2⟩; have hY1 := jR hb2 HX1.out; obtain ⟨y0, y1, y2, y3, y4, y5⟩ := zL hY1; obtain ⟨f0, f1, f2, f3, f4, f5⟩ := jfD hY1; have hR := jdK (v0 := .int .i64 0) (v1 := .string ⟨#[]⟩) (v2 := .string ⟨#[]⟩) (v3 := .slice none 0 0) (v4 := .string ⟨#[]⟩) (v5 := .bool false) hY1; have HR := hid hR; have HE := hid (show LnP w s known line (.returned (.tuple #[.agg #[.int .i64 0, .string ⟨#[]⟩, .string ⟨#[]⟩, .slice none 0 0, .string ⟨#[]⟩, .bool false], .int .i64 0, .slice none 0 0, .int .i64 11])) (outW w2 (w.heap.size + 1) (atS 0) (.slice none 0 0)) from
    ⟨(fun h => by rw [← HM.out] at h; cases h), (fun _ => rfl), (HB1.out.trans (hb2.mono HB1.out.size)).trans (low7 w2 _ _ _ _ _ _ (Nat.le_succ _))⟩)
   clear hb2 hY1 hR x0 x1 x2 x3 x4 x5; simp only [Bool.false_eq_true, if_false]; go_wp2; obtain ⟨r0, r1, r2, r3, r4, r5⟩ := zL HR.out; clear y0 y1 y2 y3 y4 y5 f0 f1 f2 f3 f4 f5; refine bodyPost_ret (v := .tuple #[.agg #[.int .i64 0, .string ⟨#[]⟩, .string ⟨#[]⟩, .slice none 0 0, .string ⟨#[]⟩, .bool false], .int .i64 0, .slice none 0 0, .int .i64 11]) (by simp [results, Tryz.results72, go_sem, *]) rfl ?_; exact HE.out
 | true =>
   have h5 : s.to.length ≤ 5 := by
    have h := (j6.1 HM.out.symm).2.2.2.1; unfold zS at h; split at h
    · have : s.to = [] := by simpa using h
      rw [this]; simp
    · simp only [Bool.and_eq_true, decide_eq_true_eq] at h; exact h.1.2
   have HT2 := hid (show s.text.length ≤ 2000 by
    have h := (j6.1 HM.out.symm).2.2.2.2; unfold vv at h; split at h
    · simpa using h
    · simp only [Bool.and_eq_true] at h; have : s.text = [] := by simpa using h.1
      rw [this]; simp)
   go_enter Tryz.func72, Tryz.ntmps72; go_upto_region 1 with fail
   rw [← HWE.out]; go_wp2_with fail; refine HCK.out.mono ?_; rintro e w2 ⟨rfl, hb2⟩; have hY0 := jR hb2 HX0.out; have HY1 := hid (jR hb2 HX1.out); obtain ⟨y0, y1, y2, y3, y4, y5⟩ := zL hY0; have HGO := hid (jed Q s (.slice av s.to.length cv) w2 (HA.out.next hb2) (by omega)); unfold sesV at HGO; have HB2 := hid hb2; clear hb2 hY0 x0 x1 x2 x3 x4 x5; simp only [if_true]; go_wp2_with fail; refine HGO.out.mono ?_; rintro e w3 ⟨v', rfl, ho3, hb3⟩; obtain ⟨a', c', rfl⟩ := ho3.slice; obtain ⟨b, hb⟩ : ∃ b, b = w3.heap.size := ⟨_, rfl⟩; obtain ⟨W4, hW4⟩ : ∃ W4, W4 = w3.alloc (.cells #[.int .i64 s.step, .string (S s.frm.1), .string (S s.frm.2), .slice a' s.to.length c', .string (S s.text), .bool s.large, .slice none 0 0] 179) := ⟨_, rfl⟩; have HWE4 := hid hW4; have hB4 : Below w3.heap.size w3 W4 := by rw [hW4]; exact nb0 _ _
   have hS4 : SB W4 b s (.slice a' s.to.length c') (.slice none 0 0) := by rw [hW4, hb]; exact heap_alloc_new w3 _
   have HB23 := hid (hb3.trans (hB4.mono hb3.size)); have HB14 := hid (show Below W1.heap.size W1 W4 from HB2.out.trans (HB23.out.mono HB2.out.size)); have HS4 := hid hS4; have HO4 := hid (jQ ho3 hB4); have HSW := hid (show SesW W4 b w2.heap.size s (.slice none 0 0) from ⟨_, hS4, jQ ho3 hB4⟩); have HN1 := hid (show W1.heap.size ≤ b by rw [hb]; exact Nat.le_trans HB2.out.size hb3.size); have HN2 := hid (show W1.heap.size ≤ w2.heap.size from HB2.out.size); have HBE := hid hb; have HLN := hid (show w2.heap.size ≤ W4.heap.size from HB23.out.size); clear hW4 hB4 hS4 ho3 hb3 hb y0 y1 y2 y3 y4 y5; obtain ⟨⟨z0, z1, z2, z3, z4, z5, z6⟩, _⟩ := zx HS4.out; have hcase : s.step = 5 ∨ s.step = 4 ∨ (¬ s.step = 5 ∧ ¬ s.step = 4) := by omega
   go_upto_region 5 with fail
   rw [← HWE4.out, ← HBE.out]
   rcases hcase with h | h | h
   case' inl =>
    have HL := hid (show jH s known line = (s, 0, []) by unfold jH; rw [if_pos h]); have e5 : (s.step == 5) = true := by simp [h]
    obtain ⟨w5, hw5⟩ : ∃ w5, w5 = W4 := ⟨_, rfl⟩; obtain ⟨r, hr⟩ : ∃ r, r = s := ⟨_, rfl⟩; obtain ⟨c, hc⟩ : ∃ c : Int, c = 0 := ⟨_, rfl⟩; obtain ⟨lv, hlv⟩ : ∃ lv, lv = Value.slice none 0 0 := ⟨_, rfl⟩; obtain ⟨ls, hls⟩ : ∃ ls, ls = ([] : List Ltr) := ⟨_, rfl⟩; have HT5 := hid (show LOwnT w5 W4.heap.size lv ls by rw [hlv, hls]; exact LOwnT.nil _ _); have HSW5 := hid (show SesW w5 b w2.heap.size r lv by rw [hw5, hr, hlv]; exact HSW.out); have HB5 := hid (show Below W1.heap.size W1 w5 by rw [hw5]; exact HB14.out); have HL5 := hid (show jH s known line = (r, c, ls) by rw [HL.out, hr, hc, hls]); have HCC := hid hc; have HCW := hid hw5; clear hw5 hr hc hlv hls; go_upto_region 10 with fail
    rw [← HCW.out]
   case' inr.inl =>
    have HL := hid (show jH s known line = ((vy s line).1, 0, (vy s line).2) by unfold jH; rw [if_neg (by omega), if_pos h]); have e5 : (s.step == 5) = false := by simp [h]
    have e4 : (s.step == 4) = true := by simp [h]
    have HX := hid (jiO W1.heap.size b w2.heap.size line s W4 HSW.out HN1.out (by omega) hl HT2.out); clear h; go_wp2_with fail; refine HX.out.mono ?_; rintro e w5 ⟨rfl, lv, hw5, ht5, hb5⟩; obtain ⟨r, hr⟩ : ∃ r, r = (vy s line).1 := ⟨_, rfl⟩; obtain ⟨c, hc⟩ : ∃ c : Int, c = 0 := ⟨_, rfl⟩; obtain ⟨ls, hls⟩ : ∃ ls, ls = (vy s line).2 := ⟨_, rfl⟩; rw [← hr] at hw5; rw [← hls] at ht5; have HT5 := hid ht5; have HSW5 := hid hw5; have HB5 := hid (show Below W1.heap.size W1 w5 from HB14.out.trans hb5); have HL5 := hid (show jH s known line = (r, c, ls) by rw [HL.out, hr, hc, hls]); have HCC := hid hc; clear hw5 ht5 hb5 hr hc hls; go_upto_region 10 with fail
   case' inr.inr =>
    have HL := hid (show jH s known line = ((cmdM s known line).1, (cmdM s known line).2, []) by unfold jH; rw [if_neg h.1, if_neg h.2]); have e5 : (s.step == 5) = false := by simp [h.1]
    have e4 : (s.step == 4) = false := by simp [h.2]
    have HX := hid (jky W1.heap.size b w2.heap.size line known (.slice ak known.length ck) s (.slice none 0 0) W4 HSW.out HN1.out HN2.out hl (HK.out.nextB HB14.out) (by omega) HLN.out); clear h; go_wp2_with fail; refine HX.out.mono ?_; rintro e w5 ⟨rfl, hw5, hb5⟩; obtain ⟨lv, hlv⟩ : ∃ lv, lv = Value.slice none 0 0 := ⟨_, rfl⟩; obtain ⟨r, hr⟩ : ∃ r, r = (cmdM s known line).1 := ⟨_, rfl⟩; obtain ⟨c, hc⟩ : ∃ c : Int, c = (cmdM s known line).2 := ⟨_, rfl⟩; obtain ⟨ls, hls⟩ : ∃ ls, ls = ([] : List Ltr) := ⟨_, rfl⟩; rw [← hr, ← hlv] at hw5; have HT5 := hid (show LOwnT w5 W4.heap.size lv ls by rw [hlv, hls]; exact LOwnT.nil _ _); have HSW5 := hid hw5; have HB5 := hid (show Below W1.heap.size W1 w5 from HB14.out.trans hb5); have HL5 := hid (show jH s known line = (r, c, ls) by rw [HL.out, hr, hc, hls]); have HCC := hid hc; clear hw5 hb5 hr hc hls hlv; go_upto_region 10 with fail
   all_goals
    clear z0 z1 z2 z3 z4 z5 z6; obtain ⟨v5, hs5, ho5⟩ := HSW5.out; obtain ⟨a5, c5, rfl⟩ := ho5.slice; obtain ⟨⟨z0, z1, z2, z3, z4, z5, z6⟩, _⟩ := zx hs5; have hz := HZ.out; have hne1 : b ≠ w.heap.size + 1 := by have := HN1.out; omega
    have hne2 : w.heap.size + 1 ≠ b := fun e => hne1 e.symm
    have hY5 : w5.heap[w.heap.size + 1]? = _ := jm8 HB5.out HX1.out (by omega); obtain ⟨y0, y1, y2, y3, y4, y5⟩ := zL hY5; obtain ⟨f0, f1, f2, f3, f4, f5⟩ := jfD hY5; have HR := hid (jdK (W := w5) (v0 := .int .i64 r.step) (v1 := .string (S r.frm.1)) (v2 := .string (S r.frm.2)) (v3 := .slice a5 r.to.length c5) (v4 := .string (S r.text)) (v5 := .bool r.large) hY5); have HE := hid (jmk (w5 := w5) HM.out.symm HL5.out ho5 HT5.out (by have := HN2.out; omega) (by have := HB14.out.size; omega) (HB1.out.trans (HB5.out.mono HB1.out.size))); unfold sesV outW at HE; clear hs5 ho5 hz hY5
    go_region_held3 (fun w' => w'.cell? ⟨b, 0, none⟩ = some (.int .i64 r.step) ∧ w'.cell? ⟨b, 1, none⟩ = some (.string (S r.frm.1)) ∧ w'.cell? ⟨b, 2, none⟩ = some (.string (S r.frm.2)) ∧ w'.cell? ⟨b, 3, none⟩ = some (.slice a5 r.to.length c5) ∧ w'.cell? ⟨b, 4, none⟩ = some (.string (S r.text)) ∧ w'.cell? ⟨b, 5, none⟩ = some (.bool r.large) ∧ w'.cell? ⟨b, 6, none⟩ = some lv) (go_keep) (fail)
    all_goals
        go_wp2; obtain ⟨r0, r1, r2, r3, r4, r5⟩ := zL (jic HR.out); clear y0 y1 y2 y3 y4 y5 f0 f1 f2 f3 f4 f5 z0 z1 z2 z3 z4 z5 z6; have hcc := HCC.out; refine bodyPost_ret (v := .tuple #[.agg #[.int .i64 r.step, .string (S r.frm.1), .string (S r.frm.2), .slice a5 r.to.length c5, .string (S r.text), .bool r.large], .int .i64 c, lv, .int .i64 0]) (by simp [results, Tryz.results72, go_sem, *]) rfl ?_; exact HE.out
theorem lawful.ok {a : Adr} (h : lawful a) : qr a = true := by unfold qr; rw [h.check]; rfl
theorem jmo {s : Ses} (h : mayS s = true) : Fit s := by
 obtain ⟨p0, p5, ps, pg, pt⟩ := j6.1 h; have hf : s.frm.1.length ≤ 100 ∧ s.frm.2.length ≤ 100 := by
  unfold zl at ps; split at ps
  · simp only [Bool.and_eq_true, List.isEmpty_iff] at ps; rw [ps.1, ps.2]; simp
  · have := jdZ ps; omega
 have ht : s.text.length ≤ 2000 := by
  unfold vv at pt; split at pt
  · simpa using pt
  · simp only [Bool.and_eq_true, List.isEmpty_iff] at pt; rw [pt.1]; simp
 have hg : ∀ x ∈ s.to, x.1.length + 1 + x.2.length ≤ 100 := by
  unfold zS at pg; split at pg
  · simp only [List.isEmpty_iff] at pg; rw [pg]; simp
  · simp only [Bool.and_eq_true] at pg; exact fun x hx => jdZ (jd6 pg.2 hx)
 exact ⟨by omega, by omega, by omega, by omega, by omega, fun x hx => by have := hg x hx; omega⟩
theorem jlB {s : Ses} (h : mayS s = true) : s.to.length ≤ 5 := by
 have h := (j6.1 h).2.2.2.1; unfold zS at h; split at h
 · have : s.to = [] := by simpa using h
   rw [this]; simp
 · simp only [Bool.and_eq_true, decide_eq_true_eq] at h; exact h.1.2
def LnG (W u : World) (r : Ses) (c : Int) (ls : List Ltr) (e : Ending) (w' : World) : Prop := ∃ a k al cl, e = .returned (.tuple #[.agg #[.int .i64 r.step, .string (S r.frm.1), .string (S r.frm.2), .slice a r.to.length k, .string (S r.text), .bool r.large], .int .i64 c, .slice al ls.length cl, .int .i64 0]) ∧ OwnL w' u.heap.size (.slice a r.to.length k) r.to ∧ LOwnT w' u.heap.size (.slice al ls.length cl) ls ∧ Below u.heap.size u w' ∧ Below W.heap.size W w' ∧ W.heap.size ≤ u.heap.size
theorem jmh {W u : World} {s r : Ses} {c : Int} {ls : List Ltr} {known : List (List UInt8)} {line : List UInt8} {a : Option Addr} {k : Nat} {kv : Value} (hm : mayS s = true) (hl : jH s known line = (r, c, ls)) (ha : AdrsM anyB u (.slice a s.to.length k) s.to) (hr : jap (.slice a s.to.length k)) (hk : TxtsM anyB u kv known) (hn : line.length ≤ 140737488355328) (hu : Below W.heap.size W u) :
 Calls Tryz.prog 72 #[.agg #[.int .i64 s.step, .string (S s.frm.1), .string (S s.frm.2), .slice a s.to.length k, .string (S s.text), .bool s.large], kv, .string (S line)] u (LnG W u r c ls) := by
 refine (jkn anyB s (.slice a s.to.length k) kv known line u (jmo hm) hr ha hk hn).mono ?_; rintro e w' ⟨h1, _, h3⟩; obtain ⟨v, lv, he, ho, ht⟩ := h1 hm; rw [hl] at he ho ht; simp only at he ho ht; obtain ⟨a', k', rfl⟩ := ho.slice; obtain ⟨al, cl, rfl⟩ := ht.slice; exact ⟨a', k', al, cl, he, ho, ht, h3, hu.trans (h3.mono hu.size), hu.size⟩
def SesB (w : World) (b B : Nat) (s : Ses) : Prop := ∃ a k, w.heap[b]? = some (.cells #[.int .i64 s.step, .string (S s.frm.1), .string (S s.frm.2), .slice a s.to.length k, .string (S s.text), .bool s.large] 79) ∧ OwnL w B (.slice a s.to.length k) s.to
theorem ji3 {w : World} {B : Nat} {v : Value} {l : List Adr} (h : OwnL w B v l) : jap v := by
 intro a n c hv
 rcases h.2 with ⟨h1, h2⟩ | ⟨g, cap, cur, h1, hb, hg, h2, h3, h4, h5⟩
 · rw [h1] at hv; cases hv; exact Nat.le_refl _
 · rw [h1] at hv; cases hv; omega
theorem SesB.next {w w' : World} {b B : Nat} {s : Ses} (h : SesB w b B s) (hb : Below w.heap.size w w') : SesB w' b B s := by
 obtain ⟨a, k, h1, h2⟩ := h; exact ⟨a, k, jR hb h1, jQ h2 hb⟩
theorem SesB.from {w : World} {b B B' : Nat} {s : Ses} (h : SesB w b B s) (hb : B' ≤ B) : SesB w b B' s := by
 obtain ⟨a, k, h1, h2⟩ := h; exact ⟨a, k, h1, jaE h2 hb⟩
def LnB (W : World) (r : Ses) (c : Int) (ls : List Ltr) (vp vc vl ve : Value) (wx : World) : Prop := ∃ P al cl, vp = .pointer (some ⟨P, 0, none⟩) ∧ vc = .int .i64 c ∧ vl = .slice al ls.length cl ∧ ve = .int .i64 0 ∧ W.heap.size ≤ P ∧ SesB wx P W.heap.size r ∧ LOwnT wx W.heap.size (.slice al ls.length cl) ls ∧ Below W.heap.size W wx
theorem LnB.new {W u w' : World} {r : Ses} {c : Int} {ls : List Ltr} {a al : Option Addr} {k cl : Nat} (h1 : OwnL w' u.heap.size (.slice a r.to.length k) r.to) (h2 : LOwnT w' u.heap.size (.slice al ls.length cl) ls) (h4 : Below W.heap.size W w') (h5 : W.heap.size ≤ u.heap.size) :
 LnB W r c ls (.pointer (some ⟨w'.heap.size, 0, none⟩)) (.int .i64 c) (.slice al ls.length cl) (.int .i64 0) (w'.alloc (.cells #[.int .i64 r.step, .string (S r.frm.1), .string (S r.frm.2), .slice a r.to.length k, .string (S r.text), .bool r.large] 79)) := by
 have hn : Below w'.heap.size w' (w'.alloc (.cells #[.int .i64 r.step, .string (S r.frm.1), .string (S r.frm.2), .slice a r.to.length k, .string (S r.text), .bool r.large] 79)) := nb0 _ _; exact ⟨_, al, cl, rfl, rfl, rfl, rfl, h4.size, ⟨a, k, heap_alloc_new _ _, jQ (jaE h1 h5) hn⟩, jeq (jb6 h2 h5) hn, h4.alloc h4.size _⟩
theorem LnB.old {W u w' : World} {r : Ses} {c : Int} {ls : List Ltr} {a al : Option Addr} {k cl P : Nat} {v0 v1 v2 v3 v4 v5 : Value} (h1 : OwnL w' u.heap.size (.slice a r.to.length k) r.to) (h2 : LOwnT w' u.heap.size (.slice al ls.length cl) ls) (h4 : Below W.heap.size W w') (h5 : W.heap.size ≤ u.heap.size) (hP : W.heap.size ≤ P) (hl : P < u.heap.size) (hk : w'.heap[P]? = some (.cells #[v0, v1, v2, v3, v4, v5] 79)) :
 LnB W r c ls (.pointer (some ⟨P, 0, none⟩)) (.int .i64 c) (.slice al ls.length cl) (.int .i64 0) ((((((w'.setCell ⟨P, 0, none⟩ (.int .i64 r.step)).setCell ⟨P, 1, none⟩ (.string (S r.frm.1))).setCell ⟨P, 2, none⟩ (.string (S r.frm.2))).setCell ⟨P, 3, none⟩ (.slice a r.to.length k)).setCell ⟨P, 4, none⟩ (.string (S r.text))).setCell ⟨P, 5, none⟩ (.bool r.large)) := by
 exact ⟨_, al, cl, rfl, rfl, rfl, rfl, hP, ⟨a, k, jdK hk, jaE (j7 (j7 (j7 (j7 (j7 (j7 h1 hl) hl) hl) hl) hl) hl) h5⟩, jb6 (zv (zv (zv (zv (zv (zv h2 hl) hl) hl) hl) hl) hl) h5, h4.trans (low7 w' _ _ _ _ _ _ hP)⟩
theorem jm6 {w : World} (o : Obj) : (w.alloc o).heap[w.heap.size]? = some o := heap_alloc_new w o
theorem jgl (K : List (List UInt8)) (Cs : List (List Cmd)) (B b : Nat) (G : List Nat) (R : Rom) (w : World) (hR : RoomM K Cs B b G R w) (i o : Nat) (hi : i < 3) (ho : o = 7 + i * 9) {Q : Nat → Prop} (v : Value) (l : List Int) (hv : IntsM Q w v l) (hn : (R.con i).told.length + l.length ≤ 1000000000) :
 Calls Tryz.prog 73 #[.pointer (some ⟨b, o, none⟩), v] w (RmQ K Cs B b G w (R.put i (jbt (R.con i) l)) (.tuple #[])) := by
 obtain ⟨a, c, rfl⟩ := qg hv
 match l, hv, hn with
 | [], hv, hn =>
   rw [jla, jdn R i hi]; exact jjB K Cs B b G R w hR i o hi ho a c (by simpa using hn)
 | x :: t, hv, hn =>
   obtain ⟨a', c', he, _, hx⟩ := hv; obtain ⟨g, q, cs, ha, _⟩ := hx 0 x rfl; simp only [Value.slice.injEq, true_and] at he; obtain ⟨rfl, rfl⟩ := he; subst ha; refine jeL K Cs B b G R w hR i o hi ho ⟨g, q, none⟩ c (x :: t) (by simp) hn fun j u hj => ?_
   rw [Addr.add_lit]; rw [List.getElem?_map] at hj; cases hk : (x :: t)[j]? with
   | none => rw [hk] at hj; cases hj
   | some k =>
     rw [hk] at hj; cases hj; obtain ⟨g', q', cs', ha', _, _, _, hc, rfl⟩ := hx j k hk; cases ha'; have := hc 0 _ rfl
     simpa using this
theorem jgu (K : List (List UInt8)) (Cs : List (List Cmd)) (B b : Nat) (G : List Nat) (R : Rom) (w : World) (hR : RoomM K Cs B b G R w) (i o : Nat) (hi : i < 3) (ho : o = 7 + i * 9) (v : Value) (l : List Int) (hv : IntsM (AvN B b G) w v l) (q : Bool) (hn : (R.con i).told.length + l.length ≤ 1000000000) :
 Calls Tryz.prog 74 #[.pointer (some ⟨b, o, none⟩), v, .bool q] w (RmQ K Cs B b G w (R.put i (zJ (R.con i) l q)) (.tuple #[])) := by
 cases q with
 | true =>
   obtain ⟨k1, k2⟩ := hR.due hi ho v l hv; have HF := hid (show RmQ K Cs B b G w (R.put i (zJ (R.con i) l true)) (.tuple #[]) (.returned (.tuple #[])) (w.setCell ⟨b, o + 7, none⟩ v) from ⟨rfl, G, k1, k2⟩); obtain ⟨_, _, _, _, _, _, _, _, _, _, _, c7, _⟩ := hR.cells hi ho; have hz := hR.frz (o + 7); obtain ⟨a, c, rfl⟩ := qg hv; clear k1 k2 ho hv hR; go_enter Tryz.func74, Tryz.ntmps74; go_wp2; go_end0; exact HF.out
 | false =>
   have HT := hid (jgl K Cs B b G R w hR i o hi ho v l hv hn); clear ho hv hR; go_enter Tryz.func74, Tryz.ntmps74; go_wp2_with fail; refine HT.out.mono ?_; rintro e w1 ⟨rfl, h⟩; have HF := hid (show RmQ K Cs B b G w (R.put i (zJ (R.con i) l false)) (.tuple #[]) (.returned (.tuple #[])) w1 from ⟨rfl, h⟩); clear h; go_wp2; go_end0; exact HF.out
theorem jfy (K : List (List UInt8)) (Cs : List (List Cmd)) (B b : Nat) (G : List Nat) (R : Rom) (w : World) (hR : RoomM K Cs B b G R w) (i o : Nat) (hi : i < 3) (ho : o = 7 + i * 9) (hn : (R.con i).told.length + (R.con i).due.length ≤ 1000000000) :
 Calls Tryz.prog 45 #[.pointer (some ⟨b, o, none⟩)] w (RmQ K Cs B b G w (R.put i (jdF (R.con i))) (.tuple #[])) := by
 obtain ⟨_, _, ad, cd, _, _, _, _, _, _, _, c7, _, _, hd⟩ := hR.cells hi ho; have HT := hid (jgl K Cs B b G R w hR i o hi ho _ _ hd hn); have HO := hid ho; clear ho hR hd; go_enter Tryz.func45, Tryz.ntmps45; go_wp2_with fail; refine HT.out.mono ?_; rintro e w1 ⟨rfl, G1, hR1, hs1⟩; obtain ⟨_, _, _, _, _, _, _, _, _, _, _, d7, _⟩ := hR1.cells hi HO.out; have hz := hR1.frz (o + 7); obtain ⟨k1, k2⟩ := hR1.due hi HO.out (.slice none 0 0) [] (jg _ _ _ _ _ _); rw [jV, qm] at k1; have HF := hid (show RmQ K Cs B b G w (R.put i (jdF (R.con i))) (.tuple #[]) (.returned (.tuple #[])) (w1.setCell ⟨b, o + 7, none⟩ (.slice none 0 0)) from ⟨rfl, G1, k1, hs1.trans k2⟩); clear k1 k2 hR1 hs1; go_wp2; go_end0; exact HF.out
theorem jjw (p : Option Addr) (a : Option Addr) (c : Nat) (q : Bool) (w : World) :
 Calls Tryz.prog 75 #[.pointer p, .slice a 0 c, .bool q] w fun e w' => e = .returned (.tuple #[.slice none 0 0, .bool false]) ∧ w' = w := by
 go_enter Tryz.func75, Tryz.ntmps75; go_wp2
 go_loopw [8, 9, 16] (fun c q i wr => c = .slice none 0 0 ∧ q = .bool false ∧ i = .int .i64 0 ∧ wr = w) (fun _ _ _ _ => 0)
 case atStart => exact ⟨rfl, rfl, rfl, rfl⟩
 case round =>
  obtain ⟨rfl, rfl, rfl, rfl⟩ := hrel; go_wp2; go_ret2; exact ⟨rfl, rfl⟩
theorem RoomM.names {K : List (List UInt8)} {Cs : List (List Cmd)} {B b : Nat} {G : List Nat} {R : Rom} {w : World} (h : RoomM K Cs B b G R w) : ∃ a c, w.cell? ⟨b, 34, none⟩ = some (.slice a K.length c) ∧ TxtsM (AvN B b G) w (.slice a K.length c) K := by
 obtain ⟨X, hG, hB, hX, hM, hQ⟩ := h; obtain ⟨a, c, e⟩ := RowM.slice hQ.lo; exact ⟨a, c, hX.cell (by rw [← e]; rfl), by rw [← e]; exact hQ.lo⟩
theorem jkT (R : Rom) (X : Vals) {i : Nat} (hi : i < 3) (s : Ses) (v : Value) : ((((((vr R X).set (7 + i * 9) (.int .i64 s.step)).set (7 + i * 9 + 1) (.string (S s.frm.1))).set (7 + i * 9 + 2) (.string (S s.frm.2))).set (7 + i * 9 + 3) v).set (7 + i * 9 + 4) (.string (S s.text))).set (7 + i * 9 + 5) (.bool s.large) = vr (R.put i (sesC (R.con i) s)) (X.put i ⟨v, (X.con i).d, (X.con i).l⟩) := by
 match i, hi with
 | 0, _ | 1, _ | 2, _ => rfl
theorem RoomM.ses {K : List (List UInt8)} {Cs : List (List Cmd)} {B b i o : Nat} {G : List Nat} {R : Rom} {w : World} (h : RoomM K Cs B b G R w) (hi : i < 3) (ho : o = 7 + i * 9) (s : Ses) (v : Value) (hv : AdrsM (AvN B b G) w v s.to) (hr : jap v) :
 RoomM K Cs B b G (R.put i (sesC (R.con i) s)) ((((((w.setCell ⟨b, o, none⟩ (.int .i64 s.step)).setCell ⟨b, o + 1, none⟩ (.string (S s.frm.1))).setCell ⟨b, o + 2, none⟩ (.string (S s.frm.2))).setCell ⟨b, o + 3, none⟩ v).setCell ⟨b, o + 4, none⟩ (.string (S s.text))).setCell ⟨b, o + 5, none⟩ (.bool s.large)) ∧
 Stp b G w G ((((((w.setCell ⟨b, o, none⟩ (.int .i64 s.step)).setCell ⟨b, o + 1, none⟩ (.string (S s.frm.1))).setCell ⟨b, o + 2, none⟩ (.string (S s.frm.2))).setCell ⟨b, o + 3, none⟩ v).setCell ⟨b, o + 4, none⟩ (.string (S s.text))).setCell ⟨b, o + 5, none⟩ (.bool s.large)) := by
 obtain ⟨X, hG, hB, hX, hM, hQ⟩ := h; have hs := ((((((Stp.refl b G w).box o (.int .i64 s.step)).box (o + 1) (.string (S s.frm.1))).box (o + 2) (.string (S s.frm.2))).box (o + 3) v).box (o + 4) (.string (S s.text))).box (o + 5) (.bool s.large); have e := jb9 R X hi (c := sesC (R.con i) s) (x := ⟨v, (X.con i).d, (X.con i).l⟩) rfl rfl; have hc := (hQ.stp hs).con hi; exact ⟨⟨X.put i ⟨v, (X.con i).d, (X.con i).l⟩, by rw [e]; exact hG, hB, ((((((hX.put _ _).put _ _).put _ _).put _ _).put _ _).put _ _).ty (by rw [ho]; exact jkT R X hi s v), by rw [e]; exact (((((hM.box _ _).box _ _).box _ _).box _ _).box _ _).box _ _, (hQ.stp hs).put hi ⟨hv.stp hs, hr, hc.du⟩⟩, hs⟩
theorem jbK {K : List (List UInt8)} {Cs : List (List Cmd)} {B b : Nat} {G : List Nat} {R : Rom} {w : World} (h : RoomM K Cs B b G R w) {k : Nat} (hk : w.heap.size ≤ k) : Av b G k := by
 obtain ⟨h1, _, h3⟩ := h.lt; exact ⟨by omega, fun e => by have := (h3 k e).2; omega⟩
theorem LtrsM.stp {b : Nat} {G G' : List Nat} {w w' : World} {v : Value} {l : List Ltr} (h : LtrsM (Av b G) w v l) (hs : Stp b G w G' w') : LtrsM (Av b G') w' v l := RowM.stp h hs fun _ _ h => h
def TkQ (K : List (List UInt8)) (Cs : List (List Cmd)) (B b : Nat) (G : List Nat) (w : World) (R : Rom) (l : List Int) (q : Bool) (e : Ending) (w' : World) : Prop :=
 ∃ v G', e = .returned (.tuple #[v, .bool q]) ∧ RoomM K Cs B b G' R w' ∧ Stp b G w G' w' ∧ IntsM (AvN B b G') w' v l
def lnC (c : Con) (r : Ses) (co : Int) : Con := jfO (sesC c r) co
theorem jkP (K : List (List UInt8)) (Cs : List (List Cmd)) (B b : Nat) (G : List Nat) (R : Rom) (w : World) (hR : RoomM K Cs B b G R w) (i o : Nat) (hi : i < 3) (ho : o = 7 + i * 9) (line : List UInt8) (hlen : line.length ≤ 140737488355328) (s r : Ses) (hs : s = (R.con i).ses) (hm : mayS s = true) (co : Int) (ls : List Ltr) (hl : jH s K line = (r, co, ls)) (hrl : r.to.length ≤ 5) (hll : ls.length ≤ 5) (hn : (R.con i).told.length + 1 ≤ 1000000000)
 (R3 : Rom) (codes : List Int) (q : Bool) (hn3 : (R3.con i).told.length + codes.length ≤ 1000000000)
 (hT : ∀ (G' : List Nat) (w' : World) (v : Value), Below B w w' → RoomM K Cs B b G' (R.put i (lnC (R.con i) r co)) w' → LtrsM (Av b G') w' v ls → Calls Tryz.prog 75 #[.pointer (some ⟨b, 0, none⟩), v, .bool s.large] w' (TkQ K Cs B b G' w' R3 codes q)) :
 Calls Tryz.prog 43 #[.pointer (some ⟨b, 0, none⟩), .pointer (some ⟨b, o, none⟩), .string (S line)] w (RmQ K Cs B b G w (R3.put i (jcx (zJ (R3.con i) codes q) r.step)) (.tuple #[])) := by
 obtain ⟨at_, ct, ad, cd, c0, c1, c2, c3, c4, c5, _, _, hA, hY, _⟩ := hR.cells hi ho; obtain ⟨al, cl, c34, hTx⟩ := hR.names; rw [← hs] at c0 c1 c2 c3 c4 c5 hA hY; have HR := hid hR; have HO := hid ho; have HT := hid hT; have HLN := hid (fun (u : World) (hu : Below w.heap.size w u) => jmh (W := w) hm hl (hA.any.next hu) hY ((hTx.imp (fun _ _ => trivial) (Keeps.refl _ _)).next hu) hlen hu); have HC := hid (show ∀ u, Below w.heap.size w u → u.cell? ⟨b, o, none⟩ = some (.int .i64 s.step) ∧ u.cell? ⟨b, o + 1, none⟩ = some (.string (S s.frm.1)) ∧ u.cell? ⟨b, o + 2, none⟩ = some (.string (S s.frm.2)) ∧ u.cell? ⟨b, o + 3, none⟩ = some (.slice at_ s.to.length ct) ∧ u.cell? ⟨b, o + 4, none⟩ = some (.string (S s.text)) ∧ u.cell? ⟨b, o + 5, none⟩ = some (.bool s.large) ∧ u.cell? ⟨b, 34, none⟩ = some (.slice al K.length cl) from
  fun u hu => ⟨ja c0 hu, ja c1 hu, ja c2 hu, ja c3 hu, ja c4 hu, ja c5 hu, ja c34 hu⟩)
 have HN := hid hn; have HN3 := hid hn3; clear hR ho hA hY hTx hm hl hn hs hT hn3; go_enter Tryz.func43, Tryz.ntmps43; go_upto_region 1 with fail
 go_cut [7, 8, 9, 10] (fun vp vc vl ve wx => LnB w r co ls vp vc vl ve wx)
 case first =>
  go_region_held3 (fun u => u.cell? ⟨b, o, none⟩ = some (.int .i64 s.step) ∧ u.cell? ⟨b, o + 1, none⟩ = some (.string (S s.frm.1)) ∧ u.cell? ⟨b, o + 2, none⟩ = some (.string (S s.frm.2)) ∧ u.cell? ⟨b, o + 3, none⟩ = some (.slice at_ s.to.length ct) ∧ u.cell? ⟨b, o + 4, none⟩ = some (.string (S s.text)) ∧ u.cell? ⟨b, o + 5, none⟩ = some (.bool s.large) ∧ u.cell? ⟨b, 34, none⟩ = some (.slice al K.length cl))
   (first | (refine HC.out _ ?_; (repeat (first | with_reducible exact HB8.out | with_reducible exact Below.refl _ _ | with_reducible refine Below.drew ?_ | with_reducible refine Below.alloc ?_ (by first | exact Nat.le_refl _ | exact HZ8.out | (simp <;> omega) | simp) _ | with_reducible refine Below.setCell ?_ (by first | exact Nat.le_refl _ | (simp <;> omega) | simp) _))) | fail)
   (first
        | (go_at_call 72
           refine (HLN.out _ ?_).mono ?_
           · repeat (first | exact Below.refl _ _ | refine Below.drew ?_ | refine Below.alloc ?_ (by first | exact Nat.le_refl _ | simp) _)
           rintro e w8 ⟨a8, k8, bl, ml, rfl, ho8, ht8, hb8, hB8, hz8⟩; have HO8 := hid ho8; have HT8 := hid ht8; have HB8 := hid hB8; have HZ8 := hid hB8.size; have HU8 := hid hz8
           first
            | (have HK8 : Hid (w8.heap[w.heap.size]? = some (.cells #[.int .i64 0, .string ⟨#[]⟩, .string ⟨#[]⟩, .slice none 0 0, .string ⟨#[]⟩, .bool false] 79)) := hid (jR hb8 (jic (jm6 _))); have hk8 := HK8.out; obtain ⟨g0, g1, g2, g3, g4, g5⟩ := jfD hk8; obtain ⟨x0, x1, x2, x3, x4, x5⟩ := zL hk8; clear hk8)
            | skip
           clear ho8 ht8 hB8 hb8 hz8)
        | fail)
  all_goals
   first
        | (have HE := hid (LnB.old (c := co) HO8.out HT8.out HB8.out HU8.out (by first | exact Nat.le_refl _ | omega) (by first | (simp; done) | (simp; omega)) HK8.out)
           go_wp2_with fail
           go_meet
           exact HE.out)
        | (have HE := hid (LnB.new (c := co) HO8.out HT8.out HB8.out HU8.out)
           go_wp2_with fail
           go_meet
           exact HE.out)
        | fail
 case rest =>
  obtain ⟨P, bl, ml, rfl, rfl, rfl, rfl, hP, ⟨ra, rk, hRx, hRO⟩, hRT, hb⟩ := hcut; obtain ⟨W1, rfl⟩ : ∃ W, W = wc := ⟨_, rfl⟩; have hR1 := HR.out.next hb; have hz := hR1.frz; obtain ⟨z0, z1, z2, z3, z4, z5⟩ : W1.frozen? ⟨b, o, none⟩ = false ∧ W1.frozen? ⟨b, o + 1, none⟩ = false ∧ W1.frozen? ⟨b, o + 2, none⟩ = false ∧ W1.frozen? ⟨b, o + 3, none⟩ = false ∧ W1.frozen? ⟨b, o + 4, none⟩ = false ∧ W1.frozen? ⟨b, o + 5, none⟩ = false := ⟨hz _, hz _, hz _, hz _, hz _, hz _⟩; obtain ⟨d0, d1, d2, d3, d4, d5, _⟩ := HC.out W1 hb; obtain ⟨q0, q1, q2, q3, q4, q5⟩ := zL hRx; have hvA : AdrsM (AvN B b G) W1 (.slice ra r.to.length rk) r.to := RowM.imp (OwnL.row hRO (by unfold maxLen; omega)) (fun k hk => ⟨by have := HR.out.lt; omega, jbK HR.out hk⟩) (Keeps.refl _ _) fun _ _ h => h
  have hvL : LtrsM (Av b G) W1 (.slice bl ls.length ml) ls := RowM.imp (LOwnT.row hRT (by unfold maxLen; omega)) (fun k hk => jbK HR.out hk) (Keeps.refl _ _) fun _ _ h => h
  obtain ⟨k1, k2⟩ := hR1.ses hi HO.out r _ hvA (ji3 hRO); have hPav : Av b G P := jbK HR.out hP; have hPl : P < W1.heap.size := (Array.getElem?_eq_some_iff.1 hRx).1; obtain ⟨W2, hW2⟩ : ∃ W2, W2 = ((((((W1.setCell ⟨b, o, none⟩ (.int .i64 r.step)).setCell ⟨b, o + 1, none⟩ (.string (S r.frm.1))).setCell ⟨b, o + 2, none⟩ (.string (S r.frm.2))).setCell ⟨b, o + 3, none⟩ (.slice ra r.to.length rk)).setCell ⟨b, o + 4, none⟩ (.string (S r.text))).setCell ⟨b, o + 5, none⟩ (.bool r.large)) := ⟨_, rfl⟩; rw [← hW2] at k1 k2; have HSW := hid (show Stp b G w G W2 from (Stp.of hb).trans k2); have HK1 := hid k1; have HVL := hid (hvL.stp k2); have HP := hid (show ∀ (G' : List Nat) (w' : World), Stp b G W2 G' w' → w'.cell? ⟨P, 0, none⟩ = some (.int .i64 r.step) from fun G' w' h => (World.cell?_of_block ((k2.trans h).block P hPl hPav)).trans q0); have HW2 := hid hW2; have HTK := hid (show ∀ (G3 : List Nat) (w3 : World), RoomM K Cs B b G3 (R.put i (lnC (R.con i) r co)) w3 → Stp b G W2 G3 w3 → Calls Tryz.prog 75 #[.pointer (some ⟨b, 0, none⟩), .slice bl ls.length ml, .bool s.large] w3 (TkQ K Cs B b G3 w3 R3 codes q) from fun G3 w3 h1 h2 => HT.out G3 w3 _ (HR.out.low (HSW.out.trans h2)) h1 (HVL.out.stp h2)); have HANS := hid (show ∀ (G4 : List Nat) (w4 : World) (v : Value), RoomM K Cs B b G4 R3 w4 → IntsM (AvN B b G4) w4 v codes → Calls Tryz.prog 74 #[.pointer (some ⟨b, o, none⟩), v, .bool q] w4 (RmQ K Cs B b G4 w4 (R3.put i (zJ (R3.con i) codes q)) (.tuple #[])) from fun G4 w4 v h1 h2 => jgu K Cs B b G4 R3 w4 h1 i o hi HO.out v codes h2 q HN3.out); have HFIN := hid (show ∀ (G4 : List Nat) (w4 : World), RoomM K Cs B b G4 (R3.put i (zJ (R3.con i) codes q)) w4 → Stp b G W2 G4 w4 → w4.cell? ⟨P, 0, none⟩ = some (.int .i64 r.step) ∧ (r.step = 5 → Calls Tryz.prog 41 #[.pointer (some ⟨b, o, none⟩), .int .i64 5] w4 (RmQ K Cs B b G w (R3.put i (jcx (zJ (R3.con i) codes q) r.step)) (.tuple #[]))) ∧
        (¬ r.step = 5 → RmQ K Cs B b G w (R3.put i (jcx (zJ (R3.con i) codes q) r.step)) (.tuple #[]) (.returned (.tuple #[])) w4) from fun G4 w4 h1 h2 => by
   refine ⟨HP.out G4 w4 h2, fun h5 => ?_, fun h5 => ?_⟩
   · refine (jbL K Cs B b G4 _ w4 h1 i o hi HO.out 5).mono fun e w5 h => ?_
     rw [jV, qm] at h; unfold jcx; rw [if_pos h5]; exact RmQ.trans (HSW.out.trans h2) h
   · unfold jcx; rw [if_neg h5]; exact ⟨rfl, G4, h1, HSW.out.trans h2⟩)
  clear hR1 hz hvA hvL k1 k2 hPav hb hRx hRO hRT c34 HLN HC HT hW2 c0 c1 c2 c3 c4 c5
  by_cases hco : co = 0
  · have HK3 := hid (show RoomM K Cs B b G (R.put i (lnC (R.con i) r co)) W2 from by unfold lnC jfO; rw [if_pos hco]; exact HK1.out); have hcb : (co == 0) = true := by simp [hco]
    clear hco; go_wp2_with fail; rw [← HW2.out]; refine (HTK.out G W2 HK3.out (Stp.refl _ _ _)).mono ?_; rintro e w4 ⟨v4, G4, rfl, hR4, hs4, hi4⟩; have HS4 := hid (Stp.trans (show Stp b G W2 G W2 from (Stp.refl _ _ _)) hs4); have HA4 := hid (HANS.out G4 w4 v4 hR4 hi4); obtain ⟨a4, c4, rfl⟩ := qg hi4; clear hR4 hs4 hi4 HTK HANS; go_wp2_with fail; refine HA4.out.mono ?_; rintro e w5 ⟨rfl, G5, hR5, hs5⟩; obtain ⟨hp, hy, hno⟩ := HFIN.out G5 w5 hR5 (HS4.out.trans hs5); have HY := hid hy; have HNO := hid hno; clear hR5 hs5 hy hno
    by_cases h5 : r.step = 5
    · have h5b : (r.step == 5) = true := by simp [h5]
      have HY5 := hid (HY.out h5); clear h5; go_wp2_with fail; refine HY5.out.mono ?_; rintro e w6 ⟨rfl, hq⟩; have HQ := hid hq; clear hq; go_wp2; go_end0; exact ⟨rfl, HQ.out⟩
    · have h5b : (r.step == 5) = false := by simp [h5]
      have HF := hid (HNO.out h5); clear h5; go_wp2; go_end0; exact HF.out
  · have hcb : (co == 0) = false := by simp [hco]
    have HLC := hid (show lnC (R.con i) r co = jbt (sesC (R.con i) r) [co] by unfold lnC jfO; rw [if_neg hco]); have HTE := hid (fun (c : Nat) (hc : ∀ j u, ([co].map fun k => Value.int .i64 k)[j]? = some u → (W2.alloc (.cells #[.int .i64 co] 3)).cell? ((⟨W2.heap.size, 0, none⟩ : Addr).add j) = some u) => jeL K Cs B b G (R.put i (sesC (R.con i) r)) (W2.alloc (.cells #[.int .i64 co] 3)) (HK1.out.next (nb0 _ _)) i o hi HO.out ⟨W2.heap.size, 0, none⟩ c [co] (by simp) (by rw [jV]; exact HN.out) hc); have hz2 : W2.heap.size = W1.heap.size := by rw [HW2.out]; simp [World.setCell]
    have HZ2 := hid hz2; clear hz2; clear hco; go_wp2_with fail; rw [← HW2.out]
    try rw [← HZ2.out]
    refine (HTE.out 1 (qk W2 [.int .i64 co] _)).mono ?_; rintro e w3 ⟨rfl, G3, hR3, hs3⟩; rw [jV, qm, ← HLC.out] at hR3; have HK3 := hid hR3; have HS3 := hid (show Stp b G W2 G3 w3 from (Stp.of ((Below.refl _ _).alloc (Nat.le_refl _) (.cells #[.int .i64 co] 3))).trans hs3); clear hR3 hs3; go_wp2_with fail; refine (HTK.out G3 w3 HK3.out HS3.out).mono ?_; rintro e w4 ⟨v4, G4, rfl, hR4, hs4, hi4⟩; have HS4 := hid (Stp.trans (show Stp b G W2 G3 w3 from HS3.out) hs4); have HA4 := hid (HANS.out G4 w4 v4 hR4 hi4); obtain ⟨a4, c4, rfl⟩ := qg hi4; clear hR4 hs4 hi4 HTK HANS; go_wp2_with fail; refine HA4.out.mono ?_; rintro e w5 ⟨rfl, G5, hR5, hs5⟩; obtain ⟨hp, hy, hno⟩ := HFIN.out G5 w5 hR5 (HS4.out.trans hs5); have HY := hid hy; have HNO := hid hno; clear hR5 hs5 hy hno
    by_cases h5 : r.step = 5
    · have h5b : (r.step == 5) = true := by simp [h5]
      have HY5 := hid (HY.out h5); clear h5; go_wp2_with fail; refine HY5.out.mono ?_; rintro e w6 ⟨rfl, hq⟩; have HQ := hid hq; clear hq; go_wp2; go_end0; exact ⟨rfl, HQ.out⟩
    · have h5b : (r.step == 5) = false := by simp [h5]
      have HF := hid (HNO.out h5); clear h5; go_wp2; go_end0; exact HF.out
theorem MOk.put {w : World} {B b g c : Nat} {A Z : List MRow} {r : MRow} (h : MOk w B b (A ++ r :: Z)) (hv : r.v = .slice (some ⟨g, 0, none⟩) r.n c) (j : Nat) (u : Value) :
 MOk (w.setCell ⟨g, j, none⟩ u) B b (A ++ ⟨r.e, r.k, r.v, r.n, r.xs.set j u⟩ :: Z) ∧ Stp b (mB (A ++ r :: Z)) w (mB (A ++ ⟨r.e, r.k, r.v, r.n, r.xs.set j u⟩ :: Z)) (w.setCell ⟨g, j, none⟩ u) := by
 have h1 := h.own r (by simp); obtain ⟨e, k, v, n, xs⟩ := r; have hv' : v = .slice (some ⟨g, 0, none⟩) n c := hv; subst hv'; exact h.grow (H := w.heap.size) (r' := ⟨e, k, .slice (some ⟨g, 0, none⟩) n c, n, xs.set j u⟩) ⟨rfl, rfl, rfl, by simp [World.setCell], fun i hi hne => Below.heap_setCell _ _ _ _ (fun e => hne (by rw [e]; rfl))⟩ (jkG h1 j u) (Nat.le_refl _) (fun g' e => .inl e)
theorem jnj {w : World} {B e k n : Nat} {v : Value} {xs : List Value} (h : w.ownsRow B e k v n xs) (hn : 0 < n) : ∃ g c cur, v = .slice (some ⟨g, 0, none⟩) n c ∧ w.heap[g]? = some (.cells cur e) ∧ ∀ j u, xs[j]? = some u → w.cell? ⟨g, j, none⟩ = some u := by
 rcases h.2 with ⟨_, h0⟩ | ⟨g, cap, cur, hv, hB, hg, hx⟩
 · omega
 · subst hv; refine ⟨g, cap, cur, rfl, hg, fun j u hj => ?_⟩; have := World.ownsRow.cells h (g := g) rfl j u hj; rw [Addr.add_lit] at this
   simpa using this
theorem jhY {w : World} {b j c i : Nat} {v u : Value} (h : w.cell? ⟨c, i, none⟩ = some u) (hne : c ≠ b) : (w.setCell ⟨b, j, none⟩ v).cell? ⟨c, i, none⟩ = some u :=
 (World.cell?_setCell_other w _ _ _ (fun e => hne (by cases e; rfl))).trans h
theorem jkm (Q : Nat → Prop) (l : List (List UInt8)) (x : List UInt8) (u : Nat) (a : Option Addr) (c : Nat) (w : World) (h : TxtsM Q w (.slice a l.length c) l) (hu : l[u]? = some x) (hno : ∀ j y, j < u → l[j]? = some y → x ≠ y) :
 Calls Tryz.prog 64 #[.slice a l.length c, .string (S x)] w fun e w' => e = .returned (.int .i64 u) ∧ Below w.heap.size w w' := by
 have hm : l.length ≤ maxLen := by obtain ⟨_, _, _, hm, _⟩ := h; exact hm
 unfold maxLen at hm; have hul : u < l.length := (List.getElem?_eq_some_iff.1 hu).1; have HL := hid h; have HU := hid hu; have HNO := hid hno; clear h hu hno; go_enter Tryz.func64, Tryz.ntmps64; go_wp2
 go_loopw [8] (fun v wr => ∃ i : Nat, i ≤ u ∧ v = .int .i64 i ∧ wr = w) (fun v _ => l.length - (intOf v).toNat)
 case atStart => exact ⟨0, Nat.zero_le _, rfl, rfl⟩
 case round =>
  obtain ⟨i, hi, rfl, rfl⟩ := hrel; have i1 : (i : Int) < (l.length : Int) := by omega
  have i0 : (0 : Int) ≤ (i : Int) := by omega
  obtain ⟨y, hy⟩ : ∃ y, l[i]? = some y := ⟨_, List.getElem?_eq_getElem (by omega)⟩; obtain ⟨b, o, rfl, _, _, e0⟩ := jjG HL.out hy; have eq1 := jlA x y
  by_cases hp : i = u
  · subst hp; have ed : decide (x = y) = true := by rw [HU.out] at hy; cases hy; simp
    rw [ed] at eq1; clear hy ed; go_wp2; go_ret; exact ⟨rfl, Below.refl _ _⟩
  · have ed : decide (x = y) = false := by simpa using HNO.out i y (by omega) hy
    rw [ed] at eq1; clear hy ed; go_wp2
    go_roundw
    case rel => first | exact ⟨i + 1, by omega, by go_num, by first | rfl | trivial⟩ | ((repeat apply Exists.intro); exact ⟨⟨i + 1, by omega, by go_num, by first | rfl | trivial⟩, rfl⟩) | (refine ⟨trivial, ?_⟩; (repeat apply Exists.intro); exact ⟨⟨i + 1, by omega, by go_num, by first | rfl | trivial⟩, rfl⟩)
    case measure => simp [intOf]; omega
theorem RoomM.look {K : List (List UInt8)} {Cs : List (List Cmd)} {B b : Nat} {G : List Nat} {R : Rom} {w : World} (h : RoomM K Cs B b G R w) (h3 : R.states.length = 3) (hc : Cs.length = 3) {u : Nat} (hu : u < 3) {s : Stt} (hs : R.states[u]? = some s) {C : List Cmd} (hC : Cs[u]? = some C) :
 ∃ (al : Option Addr) (cl g c : Nat) (vb vs : Value) (sg so sc : Nat) (a : Option Addr) (k : Nat), w.cell? ⟨b, 34, none⟩ = some (.slice al K.length cl) ∧ TxtsM anyB w (.slice al K.length cl) K ∧
   w.cell? ⟨b, 6, none⟩ = some (.slice (some ⟨g, 0, none⟩) 3 c) ∧ w.cell? ⟨g, u * 2, none⟩ = some vb ∧ w.cell? ⟨g, u * 2 + 1, none⟩ = some vs ∧ SttM anyB w vb vs s ∧
   w.cell? ⟨b, 35, none⟩ = some (.slice (some ⟨sg, so, none⟩) 3 sc) ∧ w.cell? ⟨sg, so + u, none⟩ = some (.slice a C.length k) ∧ jbl a C.length k ∧ CmdsM anyB 5 w (.slice a C.length k) C := by
 obtain ⟨X, hG, hB, hX, hM, hQ⟩ := h; have hl := hQ.sv.1; rw [h3] at hl; have ho : w.ownsRow B 49 2 X.st X.sv.length ((X.sv.map fun x => [x.1, x.2]).flatten) := hM.own (sttR X.st X.sv) (by simp [jZ]); obtain ⟨g, c, cur, hv, hg, hcl⟩ := jnj ho (by rw [hl]; decide); obtain ⟨x, hx⟩ : ∃ x, X.sv[u]? = some x := ⟨_, List.getElem?_eq_getElem (by omega)⟩; have hfl : ((X.sv.map fun x => [x.1, x.2]).flatten)[u * 2]? = some x.1 ∧ ((X.sv.map fun x => [x.1, x.2]).flatten)[u * 2 + 1]? = some x.2 := by
  have hx' := hx; generalize X.sv = l at hl hx'
  match l, hl with
  | [x0, x1, x2], _ =>
    match u, hu with
    | 0, _ | 1, _ | 2, _ => simp at hx'; subst hx'; exact ⟨rfl, rfl⟩
 obtain ⟨al, cl, e⟩ := RowM.slice hQ.lo; obtain ⟨sa, sc, es⟩ := RowM.slice hQ.sc; obtain ⟨_, _, es', _, hr⟩ := hQ.sc; obtain ⟨sg, so, cs, ha, _, _, _, hcc, a, k, rfl, hy, hcm⟩ := hr u C hC; rw [es] at es'; simp only [Value.slice.injEq, true_and] at es'; obtain ⟨rfl, rfl⟩ := es'; subst ha; rw [hc] at es; exact ⟨al, cl, g, c, x.1, x.2, sg, so, sc, a, k, hX.cell (by rw [← e]; rfl), RowM.imp (by rw [← e]; exact hQ.lo) (fun _ _ => trivial) (Keeps.refl _ _) fun _ _ h => h, hX.cell (by rw [← hl, ← hv]; rfl), hcl _ _ hfl.1, hcl _ _ hfl.2, SttM.imp (hQ.sv.2 u s x hs hx) (fun _ _ => trivial) (Keeps.refl _ _), hX.cell (by rw [← es]; rfl), by simpa using hcc 0 _ rfl, hy, hcm.any⟩
def ibS : Stt := ⟨[⟨ibN, 1, []⟩], []⟩
theorem jfd (K : List (List UInt8)) (Cs : List (List Cmd)) (B b : Nat) (G : List Nat) (R : Rom) (w : World) (hR : RoomM K Cs B b G R w) (h3 : R.states.length = 3) (hc : Cs.length = 3) (u : Nat) (hu : u < 3) (hs : R.states[u]? = some ibS) (C : List Cmd) (hC : Cs[u]? = some C) (hsh : ∀ x ∈ C, zP 5 x) (hr : vu 5 C = 0) (fl fd tl td tx : List UInt8) (h : OddL fl fd tl td tx) (hK : K[u]? = some tl) (hno : ∀ j y, j < u → K[j]? = some y → tl ≠ y) (hT : TabsM w) :
 Calls Tryz.prog 107 #[.pointer (some ⟨b, 0, none⟩), .agg #[.string (S fl), .string (S fd), .string (S tl), .string (S td), .string (S tx)]] w fun e w' => e = .returned (.tuple #[.int .i64 554, .bool false]) ∧ Below w.heap.size w w' := by
 obtain ⟨al, cl, g, c, vb, vs, sg, so, sc, a, k, c34, hl, c6, d0, d1, hS, c35, e0, hy, hcm⟩ := hR.look h3 hc hu hs hC; obtain ⟨ab, cb, rfl⟩ := RowM.slice hS.1; obtain ⟨aq, cq, rfl⟩ := RowM.slice hS.2.1; obtain ⟨W1, hW1⟩ : ∃ W1, W1 = w.alloc (.cells #[.string (S fl), .string (S fd), .string (S tl), .string (S td), .string (S tx)] 183) := ⟨_, rfl⟩; have HWE := hid hW1; have hB1 : Below w.heap.size w W1 := by rw [hW1]; exact nb0 _ _
 have HB1 := hid hB1; have hX1 : W1.heap[w.heap.size]? = some (.cells #[.string (S fl), .string (S fd), .string (S tl), .string (S td), .string (S tx)] 183) := by rw [hW1]; exact heap_alloc_new w _
 have l0 := jx (i := 0) hX1 rfl; have l1 := jx (i := 1) hX1 rfl; have l2 := jx (i := 2) hX1 rfl; have l3 := jx (i := 3) hX1 rfl; have l4 := jx (i := 4) hX1 rfl; have HIX := hid (show ∀ v, Below W1.heap.size W1 v → Calls Tryz.prog 64 #[.slice al K.length cl, .string (S tl)] v fun e w' => e = .returned (.int .i64 u) ∧ Below v.heap.size v w' from fun v hv => jkm anyB K tl u al cl v ((RowM.imp hl (fun _ h => h) (Keeps.of_below (hB1.trans (hv.mono hB1.size))) fun _ _ h => h)) hK hno); have HCL := hid (show ∀ v, Below W1.heap.size W1 v → v.cell? ⟨b, 6, none⟩ = some (.slice (some ⟨g, 0, none⟩) 3 c) ∧ v.cell? ⟨g, u * 2, none⟩ = some (.slice ab 1 cb) ∧ v.cell? ⟨g, u * 2 + 1, none⟩ = some (.slice aq 0 cq) ∧ v.cell? ⟨b, 35, none⟩ = some (.slice (some ⟨sg, so, none⟩) 3 sc) ∧ v.cell? ⟨sg, so + u, none⟩ = some (.slice a C.length k) ∧ v.cell? ⟨w.heap.size, 0, none⟩ = some (.string (S fl)) ∧ v.cell? ⟨w.heap.size, 1, none⟩ = some (.string (S fd)) ∧ v.cell? ⟨w.heap.size, 2, none⟩ = some (.string (S tl)) ∧ v.cell? ⟨w.heap.size, 3, none⟩ = some (.string (S td)) ∧ v.cell? ⟨w.heap.size, 4, none⟩ = some (.string (S tx)) from
  fun v hv => ⟨ja (ja c6 hB1) hv, ja (ja d0 hB1) hv, ja (ja d1 hB1) hv, ja (ja c35 hB1) hv, ja (ja e0 hB1) hv, ja l0 hv, ja l1 hv, ja l2 hv, ja l3 hv, ja l4 hv⟩)
 have HDL := hid (show ∀ v, Below W1.heap.size W1 v → Calls Tryz.prog 145 #[.agg #[.slice ab 1 cb, .slice aq 0 cq], .agg #[.string (S fl), .string (S fd), .string (S tl), .string (S td), .string (S tx)], .slice a C.length k] v fun e w' => ∃ er : Int, e = .returned (.tuple #[.slice none 0 0, .agg #[.slice none 0 0, .slice none 0 0], .int .i64 er]) ∧ (er = 3 ∨ er = 4) ∧ Below v.heap.size v w' from fun v hv => by
  have hv' : Below w.heap.size w v := hB1.trans (hv.mono hB1.size); exact jeS 4 C a k fl fd tl td tx _ _ v (hT.next hv').1 (hT.next hv').2 h hy.1 (fun e => hy.2 (by rw [e]; rfl)) hsh (CmdsM.next hcm hv') hr anyB (SttM.imp hS (fun _ h => h) (Keeps.of_below hv')))
 have k34 := ja c34 hB1; have u0 : (0 : Int) ≤ (u : Int) := by omega
 have u3 : (u : Int) < 3 := by omega
 clear hR h3 hc hs hC hsh hr h hK hno hT hl hS hcm hy c34 c6 d0 d1 c35 e0 hW1 hX1 l0 l1 l3 l4 hB1; go_enter Tryz.func107, Tryz.ntmps107; go_upto_region 1 with fail
 rw [← HWE.out]
 go_cut [6] (fun v wx => v = .int .i64 u ∧ Below W1.heap.size W1 wx)
 case first =>
  go_region_held3 (fun v => v.cell? ⟨b, 34, none⟩ = some (.slice al K.length cl) ∧ v.cell? ⟨w.heap.size, 2, none⟩ = some (.string (S tl))) (go_keep)
   (first
        | (go_at_call 64
           with_reducible refine (HIX.out _ ?_).mono ?_
           · repeat (first | exact Below.refl _ _ | refine Below.drew ?_)
           rintro e w4 ⟨rfl, hb⟩; have HB4 := hid (show Below W1.heap.size W1 w4 from ((Below.refl _ W1).drew).trans hb); have q34 := ja k34 HB4.out; have q2 := ja l2 HB4.out; clear hb)
        | fail)
  all_goals
   go_wp2_with fail
   go_meet
   exact ⟨rfl, HB4.out⟩
 case rest =>
  obtain ⟨rfl, hb⟩ := hcut; obtain ⟨W2, rfl⟩ : ∃ W, W = wc := ⟨_, rfl⟩; have HB2 := hid hb; obtain ⟨c6, d0, d1, c35, e0, l0, l1, l2, l3, l4⟩ := HCL.out W2 hb; have m0 : b ≠ W2.heap.size := by have := World.block_lt_of_cell? _ _ c6; simp only at this; omega
  have m1 : g ≠ W2.heap.size := by have := World.block_lt_of_cell? _ _ d0; simp only at this; omega
  have m2 : sg ≠ W2.heap.size := by have := World.block_lt_of_cell? _ _ e0; simp only at this; omega
  have m3 : w.heap.size ≠ W2.heap.size := by have := World.block_lt_of_cell? _ _ l0; simp only at this; omega
  have o0 : b < W2.heap.size := World.block_lt_of_cell? _ _ c6; have o1 : g < W2.heap.size := World.block_lt_of_cell? _ _ d0; have o2 : sg < W2.heap.size := World.block_lt_of_cell? _ _ e0; have o3 : w.heap.size < W2.heap.size := World.block_lt_of_cell? _ _ l0; have HSZ2 := hid (show (W2.alloc (.cells #[.slice none 0 0, .slice none 0 0] 49)).drew.heap.size = W2.heap.size + 1 from by show (W2.alloc _).heap.size = _; simp); clear hb k34; go_upto_region 2 with fail
  go_cut [9] (fun v wx => ∃ er : Int, v = .int .i64 er ∧ (er = 3 ∨ er = 4) ∧ Below W1.heap.size W1 wx)
  case first =>
   go_region_held3 (fun v => v.cell? ⟨b, 6, none⟩ = some (.slice (some ⟨g, 0, none⟩) 3 c) ∧ v.cell? ⟨g, u * 2, none⟩ = some (.slice ab 1 cb) ∧ v.cell? ⟨g, u * 2 + 1, none⟩ = some (.slice aq 0 cq) ∧ v.cell? ⟨b, 35, none⟩ = some (.slice (some ⟨sg, so, none⟩) 3 sc) ∧ v.cell? ⟨sg, so + u, none⟩ = some (.slice a C.length k) ∧ v.cell? ⟨w.heap.size, 0, none⟩ = some (.string (S fl)) ∧ v.cell? ⟨w.heap.size, 1, none⟩ = some (.string (S fd)) ∧ v.cell? ⟨w.heap.size, 2, none⟩ = some (.string (S tl)) ∧ v.cell? ⟨w.heap.size, 3, none⟩ = some (.string (S td)) ∧ v.cell? ⟨w.heap.size, 4, none⟩ = some (.string (S tx))) (first | go_keep | (refine ⟨?_, ?_, ?_, ?_, ?_, ?_, ?_, ?_, ?_, ?_⟩ <;> exact jhY (jhY (by assumption) (by assumption)) (by assumption)))
        (first
          | (go_at_call 145
             with_reducible refine (HDL.out _ HB2.out.drew).mono ?_
             rintro e w4 ⟨er, rfl, her, hb4⟩; have HB4 := hid (show Below W2.heap.size W2 w4 from ((Below.refl W2.heap.size W2).drew).trans hb4); have hB4 := HB4.out; have HER := hid her; have q0 := ja c6 hB4; have q1 := ja d0 hB4; have q2 := ja d1 hB4; have q3 := ja c35 hB4; have q4 := ja e0 hB4; have q5 := ja l0 hB4; have q6 := ja l1 hB4; have q7 := ja l2 hB4; have q8 := ja l3 hB4; have q9 := ja l4 hB4; have n0 := (show b ≠ w4.heap.size from by have := hB4.size; omega); have n1 := (show g ≠ w4.heap.size from by have := hB4.size; omega); have n2 := (show sg ≠ w4.heap.size from by have := hB4.size; omega); have n3 := (show w.heap.size ≠ w4.heap.size from by have := hB4.size; omega); clear hb4 hB4 her)
          | (go_at_call 145
             with_reducible refine (HDL.out _ (HB2.out.alloc HB2.out.size (.cells #[.slice none 0 0, .slice none 0 0] 49)).drew).mono ?_
             rintro e w4 ⟨er, rfl, her, hb4⟩; have HB4 := hid (show Below W2.heap.size W2 w4 from (((Below.refl W2.heap.size W2).alloc (Nat.le_refl _) (.cells #[.slice none 0 0, .slice none 0 0] 49)).drew).trans (hb4.mono (by rw [HSZ2.out]; omega))); have hB4 := HB4.out; have HER := hid her; have q0 := ja c6 hB4; have q1 := ja d0 hB4; have q2 := ja d1 hB4; have q3 := ja c35 hB4; have q4 := ja e0 hB4; have q5 := ja l0 hB4; have q6 := ja l1 hB4; have q7 := ja l2 hB4; have q8 := ja l3 hB4; have q9 := ja l4 hB4; have n0 := (show b ≠ w4.heap.size from by have := hB4.size; omega); have n1 := (show g ≠ w4.heap.size from by have := hB4.size; omega); have n2 := (show sg ≠ w4.heap.size from by have := hB4.size; omega); have n3 := (show w.heap.size ≠ w4.heap.size from by have := hB4.size; omega); have HZ3 := hid (show w4.heap[W2.heap.size]? = some (.cells #[.slice none 0 0, .slice none 0 0] 49) from (hb4.block _ (by rw [HSZ2.out]; omega)).trans (heap_alloc_new W2 _)); obtain ⟨y0, y1, f0, f1⟩ := jfu HZ3.out; clear hb4 hB4 her))
   all_goals
        go_wp2_with fail
        go_meet
        have hz2 := HB2.out.size; have hz4 := HB4.out.size; have hbw : Below W1.heap.size W1 w4 := HB2.out.trans (HB4.out.mono hz2); refine ⟨er, rfl, HER.out, ?_⟩
        repeat (first | exact hbw | refine Below.drew ?_ | refine Below.setCell ?_ (by simp only; omega) _ | refine Below.alloc ?_ (by omega) _)
  case rest =>
   obtain ⟨er, rfl, her, hb⟩ := hcut; have HB3 := hid (show Below w.heap.size w wc from HB1.out.trans (hb.mono HB1.out.size)); have h5 : (er == 5) = false := by rcases her with rfl | rfl <;> rfl
   have h0 : (er == 0) = false := by rcases her with rfl | rfl <;> rfl
   clear hb her; go_wp2; go_ret2; exact ⟨rfl, HB3.out⟩
def jgV (b o : Nat) (w : World) : Nat := match w.cell? ⟨b, o + 6, none⟩ with
 | some (.string s) => s.size
 | _ => 0
theorem jjn {rd : Rom → List UInt8 → List UInt8 → Rom} {i n : Nat} {R : Rom} (h : ((R.con i).due.isEmpty && (Lib.cut (R.con i).held [13, 10]).2.2) = false) : runW rd i n R = R.put i (endC (R.con i)) := by
 cases n with
 | zero => rfl
 | succ n => simp only [runW]; rw [if_neg (by rw [h]; decide)]
theorem jj4 {s x y : List UInt8} (h : Lib.cut s [13, 10] = (x, y, true)) : y.length < s.length := by
 have h1 : zG s = true := by
  cases h0 : zG s with
  | true => rfl
  | false => rw [jf2 h0] at h; cases h
 have := jmU h1; rw [h] at this; exact this
theorem jlr (K : List (List UInt8)) (Cs : List (List Cmd)) (B b : Nat) (G : List Nat) (R : Rom) (w : World) (hR : RoomM K Cs B b G R w) (i o : Nat) (hi : i < 3) (ho : o = 7 + i * 9) (rd : Rom → List UInt8 → List UInt8 → Rom) (Inv : Rom → Prop) (hI : Inv R) (hM : ∀ w', Below B w w' → maxLenCell w')
 (hIh : ∀ R', Inv R' → (R'.con i).held.length ≤ 1000000000)
 (hrd : ∀ (R' : Rom) (G' : List Nat) (w' : World) (x y : List UInt8), Inv R' → (R'.con i).due = [] → Lib.cut (R'.con i).held [13, 10] = (x, y, true) → Below B w w' → RoomM K Cs B b G' (R'.put i (jbp (R'.con i) y)) w' →
   Inv (rd R' x y) ∧ ((rd R' x y).con i).held.length ≤ y.length ∧ Calls Tryz.prog 43 #[.pointer (some ⟨b, 0, none⟩), .pointer (some ⟨b, o, none⟩), .string (S x)] w' (RmQ K Cs B b G' w' (rd R' x y) (.tuple #[])))
 (n : Nat) (hn : (R.con i).held.length ≤ n) :
 Calls Tryz.prog 26 #[.pointer (some ⟨b, 0, none⟩), .pointer (some ⟨b, o, none⟩)] w (RmQ K Cs B b G w (runW rd i n R) (.tuple #[])) := by
 have HR := hid hR; have HO := hid ho; have HRD := hid hrd; have HM := hid hM; have HIH := hid hIh; have HI := hid hI; clear hR ho hrd hM hIh hI; go_enter Tryz.func26, Tryz.ntmps26; go_wp2
 go_loopw [4, 5] (fun v4 v5 wr => ∃ (m : Nat) (R' : Rom) (G' : List Nat), Hid (Inv R') ∧ Hid (RoomM K Cs B b G' R' wr) ∧ Hid (Stp b G w G' wr) ∧ Hid ((R'.con i).held.length ≤ m) ∧ Hid (runW rd i m R' = runW rd i n R)) (fun _ _ wr => jgV b o wr)
 case atStart => exact ⟨n, R, G, HI, HR, hid (Stp.refl _ _ _), hid hn, hid rfl⟩
 case round =>
  obtain ⟨m, R', G', HI', HR', HS', HL', HE'⟩ := hrel; obtain ⟨_, _, _, _, _, _, _, _, _, _, c6, _⟩ := HR'.out.cells hi HO.out; have HW' := hid (show jgV b o wr = (R'.con i).held.length by unfold jgV; rw [c6]; exact jd _); have hBW := HR.out.low HS'.out; have HMW := hid (HM.out wr hBW); obtain ⟨x, y, q, hxy⟩ : ∃ x y q, Lib.cut (R'.con i).held [13, 10] = (x, y, q) := ⟨_, _, _, rfl⟩
  by_cases hy : (R'.con i).due = [] ∧ q = true
  · obtain ⟨hd, rfl⟩ := hy; have HNX := hid (jkx K Cs B b G' R' wr HR'.out i o hi HO.out HMW.out (HIH.out R' HI'.out) hd x y hxy); have HCL := hid (jj4 hxy); have HST := hid (show ∀ (G2 : List Nat) (w2 : World), RoomM K Cs B b G2 (R'.put i (jbp (R'.con i) y)) w2 → Stp b G' wr G2 w2 → Inv (rd R' x y) ∧ ((rd R' x y).con i).held.length ≤ y.length ∧ Calls Tryz.prog 43 #[.pointer (some ⟨b, 0, none⟩), .pointer (some ⟨b, o, none⟩), .string (S x)] w2 (RmQ K Cs B b G2 w2 (rd R' x y) (.tuple #[])) from fun G2 w2 h1 h2 => HRD.out R' G2 w2 x y HI'.out hd hxy (HR.out.low (HS'.out.trans h2)) h1); have HUN := hid (show ∃ m', m = m' + 1 ∧ runW rd i m' (rd R' x y) = runW rd i n R from by
        have hl := HL'.out; have hc := HCL.out; obtain ⟨m', rfl⟩ : ∃ m', m = m' + 1 := ⟨m - 1, by omega⟩; refine ⟨m', rfl, ?_⟩; have he := HE'.out; simp only [runW] at he; rw [if_pos (by rw [hd, hxy]; rfl), hxy] at he; exact he)
    clear hd hxy c6 hBW; go_wp2_with fail; refine HNX.out.mono ?_; rintro e w2 ⟨rfl, G2, hR2, hs2⟩; obtain ⟨hI2, hL2, hC2⟩ := HST.out G2 w2 hR2 hs2; have HI2 := hid hI2; have HL2 := hid hL2; have HC2 := hid hC2; have HS2 := hid (HS'.out.trans hs2); clear hR2 hs2 hI2 hL2 hC2; go_wp2_with fail; refine HC2.out.mono ?_; rintro e w3 ⟨rfl, G3, hR3, hs3⟩; obtain ⟨_, _, _, _, _, _, _, _, _, _, d6, _⟩ := hR3.cells hi HO.out; have HW3 := hid (show jgV b o w3 < jgV b o wr by
        rw [HW'.out]; unfold jgV; rw [d6]; have h1 := HL2.out; have h2 := HCL.out
        show (S _).size < _
        rw [jd]; omega)
    have HR3 := hid hR3; have HS3 := hid (HS2.out.trans hs3); have HUN' := hid (show ∃ m', ((rd R' x y).con i).held.length ≤ m' ∧ runW rd i m' (rd R' x y) = runW rd i n R by
        obtain ⟨m', rfl, he⟩ := HUN.out; refine ⟨m', ?_, he⟩; have h1 := HL2.out; have h2 := HCL.out; have h3 := HL'.out; omega)
    clear hR3 hs3 d6 HUN HST HNX; go_wp2
    go_roundw
    case rel =>
        obtain ⟨m', h1, h2⟩ := HUN'.out; exact ⟨m', _, G3, HI2, HR3, HS3, hid h1, hid h2⟩
    case measure => exact HW3.out
  · have hno : (R'.con i).due ≠ [] ∨ Lib.cut (R'.con i).held [13, 10] = (x, y, false) := by
        by_cases hd : (R'.con i).due = []
        · right
          cases q with
          | true => exact absurd ⟨hd, rfl⟩ hy
          | false => exact hxy
        · exact .inl hd
    have HNX := hid (jmq K Cs B b G' R' wr HR'.out i o hi HO.out HMW.out (HIH.out R' HI'.out) x y hno); have HEND := hid (show runW rd i n R = R'.put i (endC (R'.con i)) by
        rw [← HE'.out]; refine jjn ?_
        rcases hno with h | h
        · cases hd : (R'.con i).due with
          | nil => exact absurd hd h
          | cons a l => rfl
        · rw [h]; simp)
    clear hno hy hxy c6 hBW; go_wp2_with fail; refine HNX.out.mono ?_; rintro e w2 ⟨rfl, G2, hR2, hs2⟩; have HS2 := hid (HS'.out.trans hs2); obtain ⟨_, _, _, _, _, _, _, _, _, _, d6, _⟩ := hR2.cells hi HO.out; have HBG := hid (jbL K Cs B b G2 R' w2 hR2 i o hi HO.out 5); have HR2 := hid hR2; clear hR2 hs2
    by_cases hlong : 3000 < (R'.con i).held.length
    · have HEE := hid (show runW rd i n R = R'.put i (jas (R'.con i) 5) by rw [HEND.out]; unfold endC; rw [if_pos hlong]); have hsz : (3000 : Int) < ((S (R'.con i).held).size : Nat) := by rw [jd]; omega
      clear hlong; go_wp2_with fail; refine HBG.out.mono ?_; rintro e w3 ⟨rfl, G3, hR3, hs3⟩; have HF := hid (show RmQ K Cs B b G w (runW rd i n R) (.tuple #[]) (.returned (.tuple #[])) w3 from ⟨rfl, G3, by rw [HEE.out]; exact hR3, HS2.out.trans hs3⟩); clear hR3 hs3; go_wp2; go_end0; exact HF.out
    · have HF := hid (show RmQ K Cs B b G w (runW rd i n R) (.tuple #[]) (.returned (.tuple #[])) w2 from ⟨rfl, G2, by rw [HEND.out]; unfold endC; rw [if_neg hlong, jdn R' i hi]; exact HR2.out, HS2.out⟩); have hsz : ¬ (3000 : Int) < ((S (R'.con i).held).size : Nat) := by rw [jd]; omega
      clear hlong; go_wp2; go_end0; exact HF.out
end Go.Proofs.YtmgdnhjemhhleaaGreatDoor
