/-
  What judge.Do does: the walk.
-/
import Derived.Test.YtiefkkmkhhannaaGreatDoorJudStep
import Derived.Test.YtiefkkmkhhannaaGreatDoorRulCs
import Derived.Test.YtiefkkmkhhannaaGreatDoorJudReq
namespace Go.Proofs.YtiefkkmkhhannaaGreatDoor
open Go.RowKit Go.Proofs

set_option maxHeartbeats 1000000 in
set_option maxRecDepth 100000 in
theorem goOn_any (c : Crs) (a : Option Addr) (k : Nat) (w : World) (h : AtnsM anyB w (.slice a c.acts.length k) c.acts) (hl : c.acts.length ≤ 6) (hn : a = none → c.acts = [] ∧ k = 0) :
    Calls Tryz.prog 24 #[.agg #[.slice a c.acts.length k, .int .i64 c.flags, .bool c.asked, .int .i64 c.fault]] w fun e w' => ∃ a' k', e = .returned (.agg #[.slice a' c.acts.length k', .int .i64 c.flags, .bool c.asked, .int .i64 c.fault, .bool (c.fault != 0)]) ∧ OwnAs w.heap.size w' (.slice a' c.acts.length k') c.acts ∧ Below w.heap.size w w' := by
  obtain ⟨W0, hW0⟩ : ∃ W0, W0 = (w.alloc (.cells #[.slice a c.acts.length k, .int .i64 c.flags, .bool c.asked, .int .i64 c.fault] 49)).alloc (.cells #[.slice none 0 0, .int .i64 0, .bool false, .int .i64 0, .bool false] 78) := ⟨_, rfl⟩
  have HWE := hid hW0
  have HB0 := hid (show Below w.heap.size w W0 by rw [hW0]; exact ((Below.refl _ _).alloc (Nat.le_refl _) _).alloc (by simp) _)
  have hs0 : W0.heap.size = w.heap.size + 2 := by rw [hW0]; simp
  have HH0 := hid (show W0.heap[w.heap.size]? = some (.cells #[.slice a c.acts.length k, .int .i64 c.flags, .bool c.asked, .int .i64 c.fault] 49) by rw [hW0]; exact heap_old _ (heap_at _ rfl))
  have HG0 := hid (show W0.heap[w.heap.size + 1]? = some (.cells #[.slice none 0 0, .int .i64 0, .bool false, .int .i64 0, .bool false] 78) by rw [hW0]; exact heap_at _ (by simp))
  have HC := hid (clone_any c.acts a k W0 (AtnsM.next h HB0.out) hl hn)
  clear h hn hW0
  go_enter Tryz.func24, Tryz.ntmps24
  go_wp2_with fail
  rw [← HWE.out]
  refine HC.out.mono ?_
  rintro e w1 ⟨a1, k1, rfl, hO1, hb1⟩
  simp only
  have HO1 := hid hO1
  have HB1 := hid (HB0.out.trans (hb1.mono HB0.out.size))
  have HH1 := hid (jlow hb1 HH0.out)
  have HG1 := hid (jlow hb1 HG0.out)
  have hs1 := hb1.size
  have q0 : w1.cell? ⟨w.heap.size, 0, none⟩ = some (.slice a c.acts.length k) := by have := HH1.out; simp [World.cell?, this]
  have q1 : w1.cell? ⟨w.heap.size, 1, none⟩ = some (.int .i64 c.flags) := by have := HH1.out; simp [World.cell?, this]
  have q2 : w1.cell? ⟨w.heap.size, 2, none⟩ = some (.bool c.asked) := by have := HH1.out; simp [World.cell?, this]
  have q3 : w1.cell? ⟨w.heap.size, 3, none⟩ = some (.int .i64 c.fault) := by have := HH1.out; simp [World.cell?, this]
  have p0 : w1.frozen? ⟨w.heap.size, 0, none⟩ = false := by have := HH1.out; simp [World.frozen?, this]
  obtain ⟨⟨t0, t1, t2, t3, t4⟩, u0, u1, u2, u3, u4⟩ := box5 HG1.out
  clear hO1 hb1 HWE
  have HE := hid (show OwnAs w.heap.size ((((((w1.setCell ⟨w.heap.size, 0, none⟩ (.slice a1 c.acts.length k1)).setCell ⟨w.heap.size + 1, 0, none⟩ (.slice a1 c.acts.length k1)).setCell ⟨w.heap.size + 1, 1, none⟩ (.int .i64 c.flags)).setCell ⟨w.heap.size + 1, 2, none⟩ (.bool c.asked)).setCell ⟨w.heap.size + 1, 3, none⟩ (.int .i64 c.fault)).setCell ⟨w.heap.size + 1, 4, none⟩ (.bool (c.fault != 0))) (.slice a1 c.acts.length k1) c.acts ∧ Below w.heap.size w ((((((w1.setCell ⟨w.heap.size, 0, none⟩ (.slice a1 c.acts.length k1)).setCell ⟨w.heap.size + 1, 0, none⟩ (.slice a1 c.acts.length k1)).setCell ⟨w.heap.size + 1, 1, none⟩ (.int .i64 c.flags)).setCell ⟨w.heap.size + 1, 2, none⟩ (.bool c.asked)).setCell ⟨w.heap.size + 1, 3, none⟩ (.int .i64 c.fault)).setCell ⟨w.heap.size + 1, 4, none⟩ (.bool (c.fault != 0))) from ⟨OwnAs.low ((((((HO1.out.far (by simp; omega)).far (by simp; omega)).far (by simp; omega)).far (by simp; omega)).far (by simp; omega)).far (by simp; omega)) (by omega), (((((HB1.out.setCell (by simp) _).setCell (by simp) _).setCell (by simp) _).setCell (by simp) _).setCell (by simp) _).setCell (by simp) _⟩)
  go_wp2
  refine bodyPost_ret (v := .agg #[.slice a1 c.acts.length k1, .int .i64 c.flags, .bool c.asked, .int .i64 c.fault, .bool (c.fault != 0)]) (by simp [results, Tryz.results24, go_sem, *]) rfl ?_
  exact ⟨a1, k1, rfl, HE.out.1, HE.out.2⟩
/-- What Do hands back. -/
def DoR (w : World) (r : Crs × Bool) (e : Ending) (w' : World) : Prop := ∃ a k, e = .returned (.tuple #[.agg #[.slice a r.1.acts.length k, .int .i64 r.1.flags, .bool r.1.asked, .int .i64 r.1.fault], .bool (!r.2), .int .i64 0]) ∧ AtnsM anyB w' (.slice a r.1.acts.length k) r.1.acts ∧ (a = none → r.1.acts = [] ∧ k = 0) ∧ Below w.heap.size w w'
theorem DoR.drew {w : World} {r : Crs × Bool} {e : Ending} {w' : World} (h : DoR w r e w') : DoR w r e w'.drew := by
  obtain ⟨a, k, h1, h2, h3, h4⟩ := h
  exact ⟨a, k, h1, h2, h3, h4.drew⟩
theorem far_cell {w : World} {p b j i : Nat} (v : Value) (_ : Unit) (h : b ≠ p) : (w.setCell ⟨p, j, none⟩ v).cell? ⟨b, i, none⟩ = w.cell? ⟨b, i, none⟩ := World.cell?_setCell_other w _ _ _ (fun e => h (by cases e; rfl))
def goesP (c : Crs) (x : Cmd) : Crs × Bool := if c.fault ≠ 0 then (c, true) else doP c x
set_option maxHeartbeats 4000000 in
set_option maxRecDepth 100000 in
theorem Do_ok (M : Nat) (c : Crs) (a : Option Addr) (k : Nat) (x : Cmd) (ax an ak at' aa ae : Option Addr) (cx cn ck ct ca ce : Nat) (w : World) (hw : Tabs w) (hA : AtnsM anyB w (.slice a c.acts.length k) c.acts) (hn : a = none → c.acts = [] ∧ k = 0) (hl : c.acts.length ≤ 6) (hf0 : 0 ≤ c.flags) (hf1 : c.flags ≤ 31) (hx : CmdM anyB (M + 2) w x [.int .i64 x.kind, .slice ax x.texts.length cx, .int .i64 x.test.kind, .int .i64 x.test.mat, .int .i64 x.test.part, .slice an x.test.names.length cn, .slice ak x.test.keys.length ck, .bool x.test.over, .int .i64 x.test.limit, .slice at' x.test.tests.length ct, .slice aa x.thn.length ca, .slice ae x.els.length ce]) (hP : MayDo x) (hS : ShortC (M + 2) x) (hr : ruleM (M + 2) [reqC, x] = 0) :
    Calls Tryz.prog 11 #[.agg #[.slice a c.acts.length k, .int .i64 c.flags, .bool c.asked, .int .i64 c.fault], .agg #[.int .i64 x.kind, .slice ax x.texts.length cx, .int .i64 x.test.kind, .int .i64 x.test.mat, .int .i64 x.test.part, .slice an x.test.names.length cn, .slice ak x.test.keys.length ck, .bool x.test.over, .int .i64 x.test.limit, .slice at' x.test.tests.length ct, .slice aa x.thn.length ca, .slice ae x.els.length ce]] w (DoR w (goesP c x)) := by
  have hkb : (x.kind == 2) = false := by have := hP.1; simp; omega
  have HM := hid hw
  have HA := hid hA
  have HXM := hid hx
  have HPP := hid hP
  have HSS := hid hS
  have HRR := hid hr
  have HNN := hid hn
  obtain ⟨r, hrr⟩ : ∃ r, r = goesP c x := ⟨_, rfl⟩
  rw [← hrr]
  have HGO := hid hrr
  clear hw hA hx hP hS hr hn hrr
  obtain ⟨W0, hW0⟩ : ∃ W0, W0 = ((w.alloc (.cells #[.slice a c.acts.length k, .int .i64 c.flags, .bool c.asked, .int .i64 c.fault] 49)).alloc (.cells #[.int .i64 x.kind, .slice ax x.texts.length cx, .int .i64 x.test.kind, .int .i64 x.test.mat, .int .i64 x.test.part, .slice an x.test.names.length cn, .slice ak x.test.keys.length ck, .bool x.test.over, .int .i64 x.test.limit, .slice at' x.test.tests.length ct, .slice aa x.thn.length ca, .slice ae x.els.length ce] 55)).alloc (.cells #[.slice none 0 0, .int .i64 0, .bool false, .int .i64 0] 49) := ⟨_, rfl⟩
  have HWE := hid hW0
  have HB0 := hid (show Below w.heap.size w W0 by rw [hW0]; exact (((Below.refl _ _).alloc (Nat.le_refl _) _).alloc (by simp) _).alloc (by simp; omega) _)
  have hs0 : W0.heap.size = w.heap.size + 3 := by rw [hW0]; simp
  have HX0 := hid (show W0.heap[w.heap.size + 1]? = some (.cells #[.int .i64 x.kind, .slice ax x.texts.length cx, .int .i64 x.test.kind, .int .i64 x.test.mat, .int .i64 x.test.part, .slice an x.test.names.length cn, .slice ak x.test.keys.length ck, .bool x.test.over, .int .i64 x.test.limit, .slice at' x.test.tests.length ct, .slice aa x.thn.length ca, .slice ae x.els.length ce] 55) by rw [hW0]; exact heap_old _ (heap_at _ (by simp)))
  have HC0 := hid (show W0.heap[w.heap.size]? = some (.cells #[.slice a c.acts.length k, .int .i64 c.flags, .bool c.asked, .int .i64 c.fault] 49) by rw [hW0]; exact heap_old _ (heap_old _ (heap_at _ rfl)))
  have HR0 := hid (show W0.heap[w.heap.size + 1 + 1]? = some (.cells #[.slice none 0 0, .int .i64 0, .bool false, .int .i64 0] 49) by rw [hW0]; exact heap_at _ (by simp))
  have HQ := hid (show (decide (c.acts.length ≤ 6) && (decide (0 ≤ c.flags) && decide (c.flags ≤ 31))) = true by simp [hl, hf0, hf1])
  clear hW0
  go_enter Tryz.func11, Tryz.ntmps11
  go_wp2_with fail
  rw [← HWE.out]
  refine (mayBe_any c a k W0).mono ?_
  rw [HQ.out]
  rintro e w1 ⟨rfl, hb1⟩
  simp only
  have HB1 := hid (HB0.out.trans (hb1.mono HB0.out.size))
  have HX1 := hid (jlow hb1 HX0.out)
  have HC1 := hid (jlow hb1 HC0.out)
  have HR1 := hid (jlow hb1 HR0.out)
  have hs1 := hb1.size
  clear hb1 HWE
  have hX := HX1.out
  have g0 : w1.cell? ⟨w.heap.size + 1, 0, none⟩ = some (.int .i64 x.kind) := by simp [World.cell?, hX]
  have g1 : w1.cell? ⟨w.heap.size + 1, 1, none⟩ = some (.slice ax x.texts.length cx) := by simp [World.cell?, hX]
  have g2 : w1.cell? ⟨w.heap.size + 1, 2, none⟩ = some (.int .i64 x.test.kind) := by simp [World.cell?, hX]
  have g3 : w1.cell? ⟨w.heap.size + 1, 3, none⟩ = some (.int .i64 x.test.mat) := by simp [World.cell?, hX]
  have g4 : w1.cell? ⟨w.heap.size + 1, 4, none⟩ = some (.int .i64 x.test.part) := by simp [World.cell?, hX]
  have g5 : w1.cell? ⟨w.heap.size + 1, 5, none⟩ = some (.slice an x.test.names.length cn) := by simp [World.cell?, hX]
  have g6 : w1.cell? ⟨w.heap.size + 1, 6, none⟩ = some (.slice ak x.test.keys.length ck) := by simp [World.cell?, hX]
  have g7 : w1.cell? ⟨w.heap.size + 1, 7, none⟩ = some (.bool x.test.over) := by simp [World.cell?, hX]
  have g8 : w1.cell? ⟨w.heap.size + 1, 8, none⟩ = some (.int .i64 x.test.limit) := by simp [World.cell?, hX]
  have g9 : w1.cell? ⟨w.heap.size + 1, 9, none⟩ = some (.slice at' x.test.tests.length ct) := by simp [World.cell?, hX]
  have g10 : w1.cell? ⟨w.heap.size + 1, 10, none⟩ = some (.slice aa x.thn.length ca) := by simp [World.cell?, hX]
  have g11 : w1.cell? ⟨w.heap.size + 1, 11, none⟩ = some (.slice ae x.els.length ce) := by simp [World.cell?, hX]
  have hal : Below w1.heap.size w1 (w1.alloc (.cells #[.string ⟨#[102, 105, 108, 101, 105, 110, 116, 111]⟩, .string ⟨#[114, 101, 106, 101, 99, 116]⟩, .string ⟨#[101, 110, 118, 101, 108, 111, 112, 101]⟩, .string ⟨#[105, 109, 97, 112, 52, 102, 108, 97, 103, 115]⟩] 9)) := (Below.refl _ _).alloc (Nat.le_refl _) _
  have ga0 : (w1.alloc (.cells #[.string ⟨#[102, 105, 108, 101, 105, 110, 116, 111]⟩, .string ⟨#[114, 101, 106, 101, 99, 116]⟩, .string ⟨#[101, 110, 118, 101, 108, 111, 112, 101]⟩, .string ⟨#[105, 109, 97, 112, 52, 102, 108, 97, 103, 115]⟩] 9)).cell? ⟨w.heap.size + 1, 0, none⟩ = some (.int .i64 x.kind) := wcell_next g0 hal
  have ga1 : (w1.alloc (.cells #[.string ⟨#[102, 105, 108, 101, 105, 110, 116, 111]⟩, .string ⟨#[114, 101, 106, 101, 99, 116]⟩, .string ⟨#[101, 110, 118, 101, 108, 111, 112, 101]⟩, .string ⟨#[105, 109, 97, 112, 52, 102, 108, 97, 103, 115]⟩] 9)).cell? ⟨w.heap.size + 1, 1, none⟩ = some (.slice ax x.texts.length cx) := wcell_next g1 hal
  have ga2 : (w1.alloc (.cells #[.string ⟨#[102, 105, 108, 101, 105, 110, 116, 111]⟩, .string ⟨#[114, 101, 106, 101, 99, 116]⟩, .string ⟨#[101, 110, 118, 101, 108, 111, 112, 101]⟩, .string ⟨#[105, 109, 97, 112, 52, 102, 108, 97, 103, 115]⟩] 9)).cell? ⟨w.heap.size + 1, 2, none⟩ = some (.int .i64 x.test.kind) := wcell_next g2 hal
  have ga3 : (w1.alloc (.cells #[.string ⟨#[102, 105, 108, 101, 105, 110, 116, 111]⟩, .string ⟨#[114, 101, 106, 101, 99, 116]⟩, .string ⟨#[101, 110, 118, 101, 108, 111, 112, 101]⟩, .string ⟨#[105, 109, 97, 112, 52, 102, 108, 97, 103, 115]⟩] 9)).cell? ⟨w.heap.size + 1, 3, none⟩ = some (.int .i64 x.test.mat) := wcell_next g3 hal
  have ga4 : (w1.alloc (.cells #[.string ⟨#[102, 105, 108, 101, 105, 110, 116, 111]⟩, .string ⟨#[114, 101, 106, 101, 99, 116]⟩, .string ⟨#[101, 110, 118, 101, 108, 111, 112, 101]⟩, .string ⟨#[105, 109, 97, 112, 52, 102, 108, 97, 103, 115]⟩] 9)).cell? ⟨w.heap.size + 1, 4, none⟩ = some (.int .i64 x.test.part) := wcell_next g4 hal
  have ga5 : (w1.alloc (.cells #[.string ⟨#[102, 105, 108, 101, 105, 110, 116, 111]⟩, .string ⟨#[114, 101, 106, 101, 99, 116]⟩, .string ⟨#[101, 110, 118, 101, 108, 111, 112, 101]⟩, .string ⟨#[105, 109, 97, 112, 52, 102, 108, 97, 103, 115]⟩] 9)).cell? ⟨w.heap.size + 1, 5, none⟩ = some (.slice an x.test.names.length cn) := wcell_next g5 hal
  have ga6 : (w1.alloc (.cells #[.string ⟨#[102, 105, 108, 101, 105, 110, 116, 111]⟩, .string ⟨#[114, 101, 106, 101, 99, 116]⟩, .string ⟨#[101, 110, 118, 101, 108, 111, 112, 101]⟩, .string ⟨#[105, 109, 97, 112, 52, 102, 108, 97, 103, 115]⟩] 9)).cell? ⟨w.heap.size + 1, 6, none⟩ = some (.slice ak x.test.keys.length ck) := wcell_next g6 hal
  have ga7 : (w1.alloc (.cells #[.string ⟨#[102, 105, 108, 101, 105, 110, 116, 111]⟩, .string ⟨#[114, 101, 106, 101, 99, 116]⟩, .string ⟨#[101, 110, 118, 101, 108, 111, 112, 101]⟩, .string ⟨#[105, 109, 97, 112, 52, 102, 108, 97, 103, 115]⟩] 9)).cell? ⟨w.heap.size + 1, 7, none⟩ = some (.bool x.test.over) := wcell_next g7 hal
  have ga8 : (w1.alloc (.cells #[.string ⟨#[102, 105, 108, 101, 105, 110, 116, 111]⟩, .string ⟨#[114, 101, 106, 101, 99, 116]⟩, .string ⟨#[101, 110, 118, 101, 108, 111, 112, 101]⟩, .string ⟨#[105, 109, 97, 112, 52, 102, 108, 97, 103, 115]⟩] 9)).cell? ⟨w.heap.size + 1, 8, none⟩ = some (.int .i64 x.test.limit) := wcell_next g8 hal
  have ga9 : (w1.alloc (.cells #[.string ⟨#[102, 105, 108, 101, 105, 110, 116, 111]⟩, .string ⟨#[114, 101, 106, 101, 99, 116]⟩, .string ⟨#[101, 110, 118, 101, 108, 111, 112, 101]⟩, .string ⟨#[105, 109, 97, 112, 52, 102, 108, 97, 103, 115]⟩] 9)).cell? ⟨w.heap.size + 1, 9, none⟩ = some (.slice at' x.test.tests.length ct) := wcell_next g9 hal
  have ga10 : (w1.alloc (.cells #[.string ⟨#[102, 105, 108, 101, 105, 110, 116, 111]⟩, .string ⟨#[114, 101, 106, 101, 99, 116]⟩, .string ⟨#[101, 110, 118, 101, 108, 111, 112, 101]⟩, .string ⟨#[105, 109, 97, 112, 52, 102, 108, 97, 103, 115]⟩] 9)).cell? ⟨w.heap.size + 1, 10, none⟩ = some (.slice aa x.thn.length ca) := wcell_next g10 hal
  have ga11 : (w1.alloc (.cells #[.string ⟨#[102, 105, 108, 101, 105, 110, 116, 111]⟩, .string ⟨#[114, 101, 106, 101, 99, 116]⟩, .string ⟨#[101, 110, 118, 101, 108, 111, 112, 101]⟩, .string ⟨#[105, 109, 97, 112, 52, 102, 108, 97, 103, 115]⟩] 9)).cell? ⟨w.heap.size + 1, 11, none⟩ = some (.slice ae x.els.length ce) := wcell_next g11 hal
  have HAL := hid hal
  clear hX hal
  go_wp2
  go_region_law
    (go_simp
     go_at_call 19
     refine (requireOf_any _ _ _ _).mono ?_
     rintro e u ⟨rfl, hb2⟩
     have HB2 := hid (show Below w1.heap.size w1 u from HAL.out.drew.trans (hb2.mono (by simp)))
     have hX := jlow HB2.out HX1.out
     have gu0 : u.cell? ⟨w.heap.size + 1, 0, none⟩ = some (.int .i64 x.kind) := by simp [World.cell?, hX]
     have gu1 : u.cell? ⟨w.heap.size + 1, 1, none⟩ = some (.slice ax x.texts.length cx) := by simp [World.cell?, hX]
     have gu2 : u.cell? ⟨w.heap.size + 1, 2, none⟩ = some (.int .i64 x.test.kind) := by simp [World.cell?, hX]
     have gu3 : u.cell? ⟨w.heap.size + 1, 3, none⟩ = some (.int .i64 x.test.mat) := by simp [World.cell?, hX]
     have gu4 : u.cell? ⟨w.heap.size + 1, 4, none⟩ = some (.int .i64 x.test.part) := by simp [World.cell?, hX]
     have gu5 : u.cell? ⟨w.heap.size + 1, 5, none⟩ = some (.slice an x.test.names.length cn) := by simp [World.cell?, hX]
     have gu6 : u.cell? ⟨w.heap.size + 1, 6, none⟩ = some (.slice ak x.test.keys.length ck) := by simp [World.cell?, hX]
     have gu7 : u.cell? ⟨w.heap.size + 1, 7, none⟩ = some (.bool x.test.over) := by simp [World.cell?, hX]
     have gu8 : u.cell? ⟨w.heap.size + 1, 8, none⟩ = some (.int .i64 x.test.limit) := by simp [World.cell?, hX]
     have gu9 : u.cell? ⟨w.heap.size + 1, 9, none⟩ = some (.slice at' x.test.tests.length ct) := by simp [World.cell?, hX]
     have gu10 : u.cell? ⟨w.heap.size + 1, 10, none⟩ = some (.slice aa x.thn.length ca) := by simp [World.cell?, hX]
     have gu11 : u.cell? ⟨w.heap.size + 1, 11, none⟩ = some (.slice ae x.els.length ce) := by simp [World.cell?, hX]
     have HS2 := hid (show u.heap[w1.heap.size]? = some (.cells #[.string ⟨#[102, 105, 108, 101, 105, 110, 116, 111]⟩, .string ⟨#[114, 101, 106, 101, 99, 116]⟩, .string ⟨#[101, 110, 118, 101, 108, 111, 112, 101]⟩, .string ⟨#[105, 109, 97, 112, 52, 102, 108, 97, 103, 115]⟩] 9) from (hb2.block w1.heap.size (by simp)).trans (heap_alloc_new w1.drew _))
     clear hX hb2)
  all_goals
    obtain ⟨W3, hW3⟩ : ∃ W3, W3 = u.alloc (.cells #[.int .i64 1, .slice (some ⟨w1.heap.size, 0, none⟩) 4 4, .int .i64 0, .int .i64 0, .int .i64 0, .slice none 0 0, .slice none 0 0, .bool false, .int .i64 0, .slice none 0 0, .slice none 0 0, .slice none 0 0, .int .i64 x.kind, .slice ax x.texts.length cx, .int .i64 x.test.kind, .int .i64 x.test.mat, .int .i64 x.test.part, .slice an x.test.names.length cn, .slice ak x.test.keys.length ck, .bool x.test.over, .int .i64 x.test.limit, .slice at' x.test.tests.length ct, .slice aa x.thn.length ca, .slice ae x.els.length ce] 55) := ⟨_, rfl⟩
    have HWE3 := hid hW3
    have hal3 : Below u.heap.size u W3 := by rw [hW3]; exact (Below.refl _ _).alloc (Nat.le_refl _) _
    have HBu := hid (HB1.out.trans (HB2.out.mono HB1.out.size))
    have HB3 := hid (HBu.out.trans (hal3.mono HBu.out.size))
    have HRW := hid (show CmdsM anyB (M + 2) W3 (.slice (some ⟨u.heap.size, 0, none⟩) [reqC, x].length 2) [reqC, x] by
      refine pairM (t := 55) (fr := (0, 0)) (cs := [.int .i64 1, .slice (some ⟨w1.heap.size, 0, none⟩) 4 4, .int .i64 0, .int .i64 0, .int .i64 0, .slice none 0 0, .slice none 0 0, .bool false, .int .i64 0, .slice none 0 0, .slice none 0 0, .slice none 0 0]) (ds := [.int .i64 x.kind, .slice ax x.texts.length cx, .int .i64 x.test.kind, .int .i64 x.test.mat, .int .i64 x.test.part, .slice an x.test.names.length cn, .slice ak x.test.keys.length ck, .bool x.test.over, .int .i64 x.test.limit, .slice at' x.test.tests.length ct, .slice aa x.thn.length ca, .slice ae x.els.length ce]) (by rw [hW3]; exact heap_at _ rfl) rfl rfl trivial ?_ (CmdM.imp (fun _ h => h) (Keeps.of_below HB3.out) _ _ _ HXM.out)
      exact ⟨_, _, _, _, _, _, rfl, reqJ_txts (jlow hal3 HS2.out) trivial, none_tst _ _ _, rowM_nil _ _ _ _ _ _, rowM_nil _ _ _ _ _ _⟩)
    have HCH := hid (show Calls Tryz.prog 20 #[.slice (some ⟨u.heap.size, 0, none⟩) 2 2] W3 fun e w' => e = .returned (.int .i64 0) ∧ Below W3.heap.size W3 w' by
      have := rcheck_some (M + 1) [reqC, x] u.heap.size 0 2 W3 (HM.out.next HB3.out) (by simp) (fun y hy => by
        simp at hy
        rcases hy with e | e
        · rw [e]; exact ⟨(fun h => by cases h), (fun x hx => by cases hx), fun x hx => by cases hx⟩
        · rw [e]; exact HSS.out) HRW.out
      rw [show ruleM (M + 1 + 1) [reqC, x] = 0 from HRR.out] at this
      exact this)
    have HC3 := hid (jlow hal3 (jlow HB2.out HC1.out))
    have HR3 := hid (jlow hal3 (jlow HB2.out HR1.out))
    have HX3 := hid (jlow hal3 (jlow HB2.out HX1.out))
    have hsu := HB2.out.size
    have hs3 := hal3.size
    clear hW3 hal3 g0 g1 g2 g3 g4 g5 g6 g7 g8 g9 g10 g11 ga0 ga1 ga2 ga3 ga4 ga5 ga6 ga7 ga8 ga9 ga10 ga11 gu0 gu1 gu2 gu3 gu4 gu5 gu6 gu7 gu8 gu9 gu10 gu11
    go_wp2_with fail
    rw [← HWE3.out]
    refine HCH.out.mono ?_
    rintro e w4 ⟨rfl, hb4⟩
    simp only
    have HB4 := hid (HB3.out.trans (hb4.mono HB3.out.size))
    have HC4 := hid (jlow hb4 HC3.out)
    have HR4 := hid (jlow hb4 HR3.out)
    have HX4 := hid (jlow hb4 HX3.out)
    have hs4 := hb4.size
    have hC := HC4.out
    have c0 : w4.cell? ⟨w.heap.size, 0, none⟩ = some (.slice a c.acts.length k) := by simp [World.cell?, hC]
    have c1 : w4.cell? ⟨w.heap.size, 1, none⟩ = some (.int .i64 c.flags) := by simp [World.cell?, hC]
    have c2 : w4.cell? ⟨w.heap.size, 2, none⟩ = some (.bool c.asked) := by simp [World.cell?, hC]
    have c3 : w4.cell? ⟨w.heap.size, 3, none⟩ = some (.int .i64 c.fault) := by simp [World.cell?, hC]
    have HGN := hid (goOn_any c a k w4 (AtnsM.next HA.out HB4.out) hl HNN.out)
    clear hb4 hC HWE3
    go_wp2_with fail
    refine HGN.out.mono ?_
    rintro e w5 ⟨a5, k5, rfl, hO5, hb5⟩
    simp only
    have HB5 := hid (HB4.out.trans (hb5.mono HB4.out.size))
    have HR5 := hid (jlow hb5 HR4.out)
    have HX5 := hid (jlow hb5 HX4.out)
    have hs5 := hb5.size
    have HO5 := hid hO5
    clear hO5 hb5 c0 c1 c2 c3
    obtain ⟨ov, hov⟩ : ∃ ov, ov = (c.fault != 0) := ⟨_, rfl⟩
    rw [← hov]
    have HOV := hid hov
    clear hov
    cases ov with
    | false =>
      obtain ⟨W6, hW6⟩ : ∃ W6, W6 = (w5.alloc (.cells #[.slice a5 c.acts.length k5, .int .i64 c.flags, .bool c.asked, .int .i64 c.fault, .bool false] 78)) := ⟨_, rfl⟩
      have HWE6 := hid hW6
      have hal6 : Below w5.heap.size w5 W6 := by rw [hW6]; exact (Below.refl _ _).alloc (Nat.le_refl _) _
      have HB6 := hid (HB5.out.trans (hal6.mono HB5.out.size))
      have HK6 := hid (show CrsB W6 w4.heap.size w5.heap.size c false from ⟨a5, k5, by rw [hW6]; exact heap_alloc_new w5 _, OwnAs.below HO5.out hal6, fun e => by
        obtain ⟨css, o1, _⟩ := HO5.out
        have := (World.ownsRow.lt o1 _ e.symm).2
        omega, hs5⟩)
      have HR6 := hid (jlow hal6 HR5.out)
      have HX6 := hid (jlow hal6 HX5.out)
      have hs6 : W6.heap.size = w5.heap.size + 1 := by rw [hW6]; simp
      clear hW6 hal6
      have hR' := HR6.out
      have hX' := HX6.out
      rw [HWE6.out] at hR' hX'
      have y0 : (w5.alloc (.cells #[.slice a5 c.acts.length k5, .int .i64 c.flags, .bool c.asked, .int .i64 c.fault, .bool false] 78)).cell? ⟨w.heap.size + 1, 0, none⟩ = some (.int .i64 x.kind) := by simp [World.cell?, hX']
      have y1 : (w5.alloc (.cells #[.slice a5 c.acts.length k5, .int .i64 c.flags, .bool c.asked, .int .i64 c.fault, .bool false] 78)).cell? ⟨w.heap.size + 1, 1, none⟩ = some (.slice ax x.texts.length cx) := by simp [World.cell?, hX']
      have y2 : (w5.alloc (.cells #[.slice a5 c.acts.length k5, .int .i64 c.flags, .bool c.asked, .int .i64 c.fault, .bool false] 78)).cell? ⟨w.heap.size + 1, 2, none⟩ = some (.int .i64 x.test.kind) := by simp [World.cell?, hX']
      have y3 : (w5.alloc (.cells #[.slice a5 c.acts.length k5, .int .i64 c.flags, .bool c.asked, .int .i64 c.fault, .bool false] 78)).cell? ⟨w.heap.size + 1, 3, none⟩ = some (.int .i64 x.test.mat) := by simp [World.cell?, hX']
      have y4 : (w5.alloc (.cells #[.slice a5 c.acts.length k5, .int .i64 c.flags, .bool c.asked, .int .i64 c.fault, .bool false] 78)).cell? ⟨w.heap.size + 1, 4, none⟩ = some (.int .i64 x.test.part) := by simp [World.cell?, hX']
      have y5 : (w5.alloc (.cells #[.slice a5 c.acts.length k5, .int .i64 c.flags, .bool c.asked, .int .i64 c.fault, .bool false] 78)).cell? ⟨w.heap.size + 1, 5, none⟩ = some (.slice an x.test.names.length cn) := by simp [World.cell?, hX']
      have y6 : (w5.alloc (.cells #[.slice a5 c.acts.length k5, .int .i64 c.flags, .bool c.asked, .int .i64 c.fault, .bool false] 78)).cell? ⟨w.heap.size + 1, 6, none⟩ = some (.slice ak x.test.keys.length ck) := by simp [World.cell?, hX']
      have y7 : (w5.alloc (.cells #[.slice a5 c.acts.length k5, .int .i64 c.flags, .bool c.asked, .int .i64 c.fault, .bool false] 78)).cell? ⟨w.heap.size + 1, 7, none⟩ = some (.bool x.test.over) := by simp [World.cell?, hX']
      have y8 : (w5.alloc (.cells #[.slice a5 c.acts.length k5, .int .i64 c.flags, .bool c.asked, .int .i64 c.fault, .bool false] 78)).cell? ⟨w.heap.size + 1, 8, none⟩ = some (.int .i64 x.test.limit) := by simp [World.cell?, hX']
      have y9 : (w5.alloc (.cells #[.slice a5 c.acts.length k5, .int .i64 c.flags, .bool c.asked, .int .i64 c.fault, .bool false] 78)).cell? ⟨w.heap.size + 1, 9, none⟩ = some (.slice at' x.test.tests.length ct) := by simp [World.cell?, hX']
      have y10 : (w5.alloc (.cells #[.slice a5 c.acts.length k5, .int .i64 c.flags, .bool c.asked, .int .i64 c.fault, .bool false] 78)).cell? ⟨w.heap.size + 1, 10, none⟩ = some (.slice aa x.thn.length ca) := by simp [World.cell?, hX']
      have y11 : (w5.alloc (.cells #[.slice a5 c.acts.length k5, .int .i64 c.flags, .bool c.asked, .int .i64 c.fault, .bool false] 78)).cell? ⟨w.heap.size + 1, 11, none⟩ = some (.slice ae x.els.length ce) := by simp [World.cell?, hX']
      have z0 : (w5.alloc (.cells #[.slice a5 c.acts.length k5, .int .i64 c.flags, .bool c.asked, .int .i64 c.fault, .bool false] 78)).cell? ⟨w.heap.size + 1 + 1, 0, none⟩ = some (.slice none 0 0) := by simp [World.cell?, hR']
      have z1 : (w5.alloc (.cells #[.slice a5 c.acts.length k5, .int .i64 c.flags, .bool c.asked, .int .i64 c.fault, .bool false] 78)).cell? ⟨w.heap.size + 1 + 1, 1, none⟩ = some (.int .i64 0) := by simp [World.cell?, hR']
      have z2 : (w5.alloc (.cells #[.slice a5 c.acts.length k5, .int .i64 c.flags, .bool c.asked, .int .i64 c.fault, .bool false] 78)).cell? ⟨w.heap.size + 1 + 1, 2, none⟩ = some (.bool false) := by simp [World.cell?, hR']
      have z3 : (w5.alloc (.cells #[.slice a5 c.acts.length k5, .int .i64 c.flags, .bool c.asked, .int .i64 c.fault, .bool false] 78)).cell? ⟨w.heap.size + 1 + 1, 3, none⟩ = some (.int .i64 0) := by simp [World.cell?, hR']
      have zf : ∀ j, (w5.alloc (.cells #[.slice a5 c.acts.length k5, .int .i64 c.flags, .bool c.asked, .int .i64 c.fault, .bool false] 78)).frozen? ⟨w.heap.size + 1 + 1, j, none⟩ = false := by intro j; simp [World.frozen?, hR']
      clear hR' hX'
      have HG2 := hid (show r = doP c x by rw [HGO.out]; unfold goesP; rw [if_neg (by have := HOV.out; simpa using this)])
      have HLL := hid (show r.1.acts.length ≤ 6 by rw [HG2.out]; exact doP_len c x hl)
      obtain ⟨r1, r2⟩ := r
      have HDO := hid (show Calls Tryz.prog 25 #[.pointer (some ⟨w5.heap.size, 0, none⟩), .agg #[.int .i64 x.kind, .slice ax x.texts.length cx, .int .i64 x.test.kind, .int .i64 x.test.mat, .int .i64 x.test.part, .slice an x.test.names.length cn, .slice ak x.test.keys.length ck, .bool x.test.over, .int .i64 x.test.limit, .slice at' x.test.tests.length ct, .slice aa x.thn.length ca, .slice ae x.els.length ce]] W6 (StepR W6 w4.heap.size w5.heap.size (r1, r2)) by rw [HG2.out]; exact do_any w4.heap.size w5.heap.size c x ax an ak at' aa ae cx cn ck ct ca ce W6 HK6.out hl hf0 hf1 (HM.out.next HB6.out).2.2.2.2 ((cmd_parts HXM.out).choose_spec.2.1.next HB6.out) HPP.out)
      go_wp2_with fail
      rw [← HWE6.out]
      refine HDO.out.mono ?_
      rintro e w7 ⟨⟨v, rfl⟩, hk7, hb7, _⟩
      simp only
      have hw4 : w.heap.size + 3 ≤ w4.heap.size := by omega
      have HB7 := hid (HB6.out.trans (hb7.mono (by omega)))
      have HR7 := hid (show w7.heap[w.heap.size + 1 + 1]? = some (.cells #[.slice none 0 0, .int .i64 0, .bool false, .int .i64 0] 49) from (hb7.block (w.heap.size + 1 + 1) (by omega)).trans HR6.out)
      obtain ⟨a7, k7, hh7, hO7, hn7, hB7⟩ := hk7
      have HO7 := hid hO7
      obtain ⟨⟨t0, t1, t2, t3, t4⟩, u0, u1, u2, u3, u4⟩ := box5 hh7
      have hR := HR7.out
      have z0' : w7.cell? ⟨w.heap.size + 1 + 1, 0, none⟩ = some (.slice none 0 0) := by simp [World.cell?, hR]
      have z1' : w7.cell? ⟨w.heap.size + 1 + 1, 1, none⟩ = some (.int .i64 0) := by simp [World.cell?, hR]
      have z2' : w7.cell? ⟨w.heap.size + 1 + 1, 2, none⟩ = some (.bool false) := by simp [World.cell?, hR]
      have z3' : w7.cell? ⟨w.heap.size + 1 + 1, 3, none⟩ = some (.int .i64 0) := by simp [World.cell?, hR]
      have zf' : ∀ j, w7.frozen? ⟨w.heap.size + 1 + 1, j, none⟩ = false := by intro j; simp [World.frozen?, hR]
      have hbn : w5.heap.size ≠ w.heap.size + 1 + 1 := by omega
      have t4' : ((((w7.setCell ⟨w.heap.size + 1 + 1, 0, none⟩ (.slice a7 r1.acts.length k7)).setCell ⟨w.heap.size + 1 + 1, 1, none⟩ (.int .i64 r1.flags)).setCell ⟨w.heap.size + 1 + 1, 2, none⟩ (.bool r1.asked)).setCell ⟨w.heap.size + 1 + 1, 3, none⟩ (.int .i64 r1.fault)).cell? ⟨w5.heap.size, 4, none⟩ = some (.bool r2) := by rw [far_cell _ () hbn, far_cell _ () hbn, far_cell _ () hbn, far_cell _ () hbn]; exact t4
      have HE := hid (show DoR w (r1, r2) (.returned (.tuple #[.agg #[.slice a7 r1.acts.length k7, .int .i64 r1.flags, .bool r1.asked, .int .i64 r1.fault], .bool (!r2), .int .i64 0])) ((((w7.setCell ⟨w.heap.size + 1 + 1, 0, none⟩ (.slice a7 r1.acts.length k7)).setCell ⟨w.heap.size + 1 + 1, 1, none⟩ (.int .i64 r1.flags)).setCell ⟨w.heap.size + 1 + 1, 2, none⟩ (.bool r1.asked)).setCell ⟨w.heap.size + 1 + 1, 3, none⟩ (.int .i64 r1.fault)) from
        ⟨a7, k7, rfl, RowM.imp (OwnRow.rowM firm_atn ((((HO7.out.far (by simp; omega)).far (by simp; omega)).far (by simp; omega)).far (by simp; omega)) (by have h6 : r1.acts.length ≤ 6 := HLL.out; show r1.acts.length ≤ maxLen; unfold maxLen; omega)) (fun _ _ => trivial) (Keeps.refl _ _) (fun _ _ h => h), own_none HO7.out, (((HB7.out.setCell (by simp; omega) _).setCell (by simp; omega) _).setCell (by simp; omega) _).setCell (by simp; omega) _⟩)
      clear hR hh7 hO7 HWE6 y0 y1 y2 y3 y4 y5 y6 y7 y8 y9 y10 y11 z0 z1 z2 z3 zf
      go_wp2
      go_region_law (fail)
      all_goals
        go_wp2
        refine bodyPost_ret (v := .tuple #[.agg #[.slice a7 r1.acts.length k7, .int .i64 r1.flags, .bool r1.asked, .int .i64 r1.fault], .bool (!r2), .int .i64 0]) (by simp [results, Tryz.results11, go_sem, *]) rfl ?_
        first | exact HE.out | exact DoR.drew HE.out
    | true =>
      obtain ⟨W6, hW6⟩ : ∃ W6, W6 = (w5.alloc (.cells #[.slice a5 c.acts.length k5, .int .i64 c.flags, .bool c.asked, .int .i64 c.fault, .bool true] 78)) := ⟨_, rfl⟩
      have HWE6 := hid hW6
      have hal6 : Below w5.heap.size w5 W6 := by rw [hW6]; exact (Below.refl _ _).alloc (Nat.le_refl _) _
      have HB6 := hid (HB5.out.trans (hal6.mono HB5.out.size))
      have HK6 := hid (show CrsB W6 w4.heap.size w5.heap.size c true from ⟨a5, k5, by rw [hW6]; exact heap_alloc_new w5 _, OwnAs.below HO5.out hal6, fun e => by
        obtain ⟨css, o1, _⟩ := HO5.out
        have := (World.ownsRow.lt o1 _ e.symm).2
        omega, hs5⟩)
      have HR6 := hid (jlow hal6 HR5.out)
      have HX6 := hid (jlow hal6 HX5.out)
      have hs6 : W6.heap.size = w5.heap.size + 1 := by rw [hW6]; simp
      clear hW6 hal6
      have hR' := HR6.out
      have hX' := HX6.out
      rw [HWE6.out] at hR' hX'
      have y0 : (w5.alloc (.cells #[.slice a5 c.acts.length k5, .int .i64 c.flags, .bool c.asked, .int .i64 c.fault, .bool true] 78)).cell? ⟨w.heap.size + 1, 0, none⟩ = some (.int .i64 x.kind) := by simp [World.cell?, hX']
      have y1 : (w5.alloc (.cells #[.slice a5 c.acts.length k5, .int .i64 c.flags, .bool c.asked, .int .i64 c.fault, .bool true] 78)).cell? ⟨w.heap.size + 1, 1, none⟩ = some (.slice ax x.texts.length cx) := by simp [World.cell?, hX']
      have y2 : (w5.alloc (.cells #[.slice a5 c.acts.length k5, .int .i64 c.flags, .bool c.asked, .int .i64 c.fault, .bool true] 78)).cell? ⟨w.heap.size + 1, 2, none⟩ = some (.int .i64 x.test.kind) := by simp [World.cell?, hX']
      have y3 : (w5.alloc (.cells #[.slice a5 c.acts.length k5, .int .i64 c.flags, .bool c.asked, .int .i64 c.fault, .bool true] 78)).cell? ⟨w.heap.size + 1, 3, none⟩ = some (.int .i64 x.test.mat) := by simp [World.cell?, hX']
      have y4 : (w5.alloc (.cells #[.slice a5 c.acts.length k5, .int .i64 c.flags, .bool c.asked, .int .i64 c.fault, .bool true] 78)).cell? ⟨w.heap.size + 1, 4, none⟩ = some (.int .i64 x.test.part) := by simp [World.cell?, hX']
      have y5 : (w5.alloc (.cells #[.slice a5 c.acts.length k5, .int .i64 c.flags, .bool c.asked, .int .i64 c.fault, .bool true] 78)).cell? ⟨w.heap.size + 1, 5, none⟩ = some (.slice an x.test.names.length cn) := by simp [World.cell?, hX']
      have y6 : (w5.alloc (.cells #[.slice a5 c.acts.length k5, .int .i64 c.flags, .bool c.asked, .int .i64 c.fault, .bool true] 78)).cell? ⟨w.heap.size + 1, 6, none⟩ = some (.slice ak x.test.keys.length ck) := by simp [World.cell?, hX']
      have y7 : (w5.alloc (.cells #[.slice a5 c.acts.length k5, .int .i64 c.flags, .bool c.asked, .int .i64 c.fault, .bool true] 78)).cell? ⟨w.heap.size + 1, 7, none⟩ = some (.bool x.test.over) := by simp [World.cell?, hX']
      have y8 : (w5.alloc (.cells #[.slice a5 c.acts.length k5, .int .i64 c.flags, .bool c.asked, .int .i64 c.fault, .bool true] 78)).cell? ⟨w.heap.size + 1, 8, none⟩ = some (.int .i64 x.test.limit) := by simp [World.cell?, hX']
      have y9 : (w5.alloc (.cells #[.slice a5 c.acts.length k5, .int .i64 c.flags, .bool c.asked, .int .i64 c.fault, .bool true] 78)).cell? ⟨w.heap.size + 1, 9, none⟩ = some (.slice at' x.test.tests.length ct) := by simp [World.cell?, hX']
      have y10 : (w5.alloc (.cells #[.slice a5 c.acts.length k5, .int .i64 c.flags, .bool c.asked, .int .i64 c.fault, .bool true] 78)).cell? ⟨w.heap.size + 1, 10, none⟩ = some (.slice aa x.thn.length ca) := by simp [World.cell?, hX']
      have y11 : (w5.alloc (.cells #[.slice a5 c.acts.length k5, .int .i64 c.flags, .bool c.asked, .int .i64 c.fault, .bool true] 78)).cell? ⟨w.heap.size + 1, 11, none⟩ = some (.slice ae x.els.length ce) := by simp [World.cell?, hX']
      have z0 : (w5.alloc (.cells #[.slice a5 c.acts.length k5, .int .i64 c.flags, .bool c.asked, .int .i64 c.fault, .bool true] 78)).cell? ⟨w.heap.size + 1 + 1, 0, none⟩ = some (.slice none 0 0) := by simp [World.cell?, hR']
      have z1 : (w5.alloc (.cells #[.slice a5 c.acts.length k5, .int .i64 c.flags, .bool c.asked, .int .i64 c.fault, .bool true] 78)).cell? ⟨w.heap.size + 1 + 1, 1, none⟩ = some (.int .i64 0) := by simp [World.cell?, hR']
      have z2 : (w5.alloc (.cells #[.slice a5 c.acts.length k5, .int .i64 c.flags, .bool c.asked, .int .i64 c.fault, .bool true] 78)).cell? ⟨w.heap.size + 1 + 1, 2, none⟩ = some (.bool false) := by simp [World.cell?, hR']
      have z3 : (w5.alloc (.cells #[.slice a5 c.acts.length k5, .int .i64 c.flags, .bool c.asked, .int .i64 c.fault, .bool true] 78)).cell? ⟨w.heap.size + 1 + 1, 3, none⟩ = some (.int .i64 0) := by simp [World.cell?, hR']
      have zf : ∀ j, (w5.alloc (.cells #[.slice a5 c.acts.length k5, .int .i64 c.flags, .bool c.asked, .int .i64 c.fault, .bool true] 78)).frozen? ⟨w.heap.size + 1 + 1, j, none⟩ = false := by intro j; simp [World.frozen?, hR']
      clear hR' hX'
      have HG2 := hid (show r = (c, true) by rw [HGO.out]; unfold goesP; rw [if_pos (by have := HOV.out; simpa using this.symm)])
      have hw4 : w.heap.size + 3 ≤ w4.heap.size := by omega
      have hK6 : W6.heap[w5.heap.size]? = some (.cells #[.slice a5 c.acts.length k5, .int .i64 c.flags, .bool c.asked, .int .i64 c.fault, .bool true] 78) := by rw [HWE6.out]; exact heap_alloc_new w5 _
      obtain ⟨⟨t0, t1, t2, t3, t4⟩, u0, u1, u2, u3, u4⟩ := box5 hK6
      have hR := HR6.out
      have z0' : W6.cell? ⟨w.heap.size + 1 + 1, 0, none⟩ = some (.slice none 0 0) := by simp [World.cell?, hR]
      have z1' : W6.cell? ⟨w.heap.size + 1 + 1, 1, none⟩ = some (.int .i64 0) := by simp [World.cell?, hR]
      have z2' : W6.cell? ⟨w.heap.size + 1 + 1, 2, none⟩ = some (.bool false) := by simp [World.cell?, hR]
      have z3' : W6.cell? ⟨w.heap.size + 1 + 1, 3, none⟩ = some (.int .i64 0) := by simp [World.cell?, hR]
      have zf' : ∀ j, W6.frozen? ⟨w.heap.size + 1 + 1, j, none⟩ = false := by intro j; simp [World.frozen?, hR]
      have hbn : w5.heap.size ≠ w.heap.size + 1 + 1 := by omega
      have t4' : ((((W6.setCell ⟨w.heap.size + 1 + 1, 0, none⟩ (.slice a5 c.acts.length k5)).setCell ⟨w.heap.size + 1 + 1, 1, none⟩ (.int .i64 c.flags)).setCell ⟨w.heap.size + 1 + 1, 2, none⟩ (.bool c.asked)).setCell ⟨w.heap.size + 1 + 1, 3, none⟩ (.int .i64 c.fault)).cell? ⟨w5.heap.size, 4, none⟩ = some (.bool true) := by rw [far_cell _ () hbn, far_cell _ () hbn, far_cell _ () hbn, far_cell _ () hbn]; exact t4
      have HE := hid (show DoR w r (.returned (.tuple #[.agg #[.slice a5 c.acts.length k5, .int .i64 c.flags, .bool c.asked, .int .i64 c.fault], .bool false, .int .i64 0])) ((((W6.setCell ⟨w.heap.size + 1 + 1, 0, none⟩ (.slice a5 c.acts.length k5)).setCell ⟨w.heap.size + 1 + 1, 1, none⟩ (.int .i64 c.flags)).setCell ⟨w.heap.size + 1 + 1, 2, none⟩ (.bool c.asked)).setCell ⟨w.heap.size + 1 + 1, 3, none⟩ (.int .i64 c.fault)) by
        rw [HG2.out]
        exact ⟨a5, k5, rfl, RowM.imp (OwnRow.rowM firm_atn (((((OwnAs.below HO5.out (by rw [HWE6.out]; exact (Below.refl _ _).alloc (Nat.le_refl _) _)).far (by simp; omega)).far (by simp; omega)).far (by simp; omega)).far (by simp; omega)) (by show c.acts.length ≤ maxLen; unfold maxLen; omega)) (fun _ _ => trivial) (Keeps.refl _ _) (fun _ _ h => h), own_none HO5.out, (((HB6.out.setCell (by simp; omega) _).setCell (by simp; omega) _).setCell (by simp; omega) _).setCell (by simp; omega) _⟩)
      clear hR hK6 y0 y1 y2 y3 y4 y5 y6 y7 y8 y9 y10 y11 z0 z1 z2 z3 zf
      go_wp2
      rw [← HWE6.out]
      go_region_law (fail)
      all_goals
        go_wp2
        refine bodyPost_ret (v := .tuple #[.agg #[.slice a5 c.acts.length k5, .int .i64 c.flags, .bool c.asked, .int .i64 c.fault], .bool false, .int .i64 0]) (by simp [results, Tryz.results11, go_sem, *]) rfl ?_
        first | exact HE.out | exact DoR.drew HE.out
end Go.Proofs.YtiefkkmkhhannaaGreatDoor
