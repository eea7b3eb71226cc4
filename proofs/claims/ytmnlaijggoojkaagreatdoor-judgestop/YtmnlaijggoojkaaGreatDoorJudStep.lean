/-
  What a command does with a course on its way: the walk.
-/
import Derived.Test.YtmnlaijggoojkaaGreatDoorJudAct
namespace Go.Proofs.YtmnlaijggoojkaaGreatDoor
open Go.RowKit Go.Proofs

def StepR (w : World) (B b : Nat) (r : Crs × Bool) (e : Ending) (w' : World) : Prop := (∃ v, e = .returned v) ∧ CrsB w' B b r.1 r.2 ∧ Below B w w' ∧ Frm b w w'
theorem flagsZ_lt (l : List (List UInt8)) : flagsZ l < 32 := by
  unfold flagsZ
  cases h : flagsP l with
  | none => show 0 < 32; omega
  | some v => exact flagsG_lt l 0 v (by omega) h
theorem CrsB.lt {w : World} {B b : Nat} {c : Crs} {o : Bool} (h : CrsB w B b c o) : b < w.heap.size ∧ B ≤ b := by
  obtain ⟨a, k, h1, _, _, h4⟩ := h
  exact ⟨(Array.getElem?_eq_some_iff.1 h1).1, h4⟩
theorem CrsB.set {w : World} {B b : Nat} {c : Crs} {o : Bool} (h : CrsB w B b c o) (f : Int) (o' : Bool) : CrsB (w.setCell ⟨b, 1, none⟩ (.int .i64 f)) B b ⟨c.acts, f, c.asked, c.fault⟩ o ∧ CrsB (w.setCell ⟨b, 4, none⟩ (.bool o')) B b c o' := by
  obtain ⟨a, k, h1, h2, h3, h4⟩ := h
  exact ⟨⟨a, k, by simpa using set5 h1 1 (.int .i64 f), OwnAs.but h2 (But.setAt w 1 _) h3, h3, h4⟩, ⟨a, k, by simpa using set5 h1 4 (.bool o'), OwnAs.but h2 (But.setAt w 4 _) h3, h3, h4⟩⟩
set_option maxHeartbeats 1000000 in
set_option maxRecDepth 100000 in
theorem do_1 (B b : Nat) (c : Crs) (x : Cmd) (ax an ak at' aa ae : Option Addr) (cx cn ck ct ca ce : Nat) (w : World) (h : CrsB w B b c false) :
    Calls Tryz.prog 67 #[.pointer (some ⟨b, 0, none⟩), .agg #[.int .i64 1, .slice ax x.texts.length cx, .int .i64 x.test.kind, .int .i64 x.test.mat, .int .i64 x.test.part, .slice an x.test.names.length cn, .slice ak x.test.keys.length ck, .bool x.test.over, .int .i64 x.test.limit, .slice at' x.test.tests.length ct, .slice aa x.thn.length ca, .slice ae x.els.length ce]] w (StepR w B b (c, false)) := by
  have hlt := h.lt
  obtain ⟨W0, hW0⟩ : ∃ W0, W0 = w.alloc (.cells #[.int .i64 1, .slice ax x.texts.length cx, .int .i64 x.test.kind, .int .i64 x.test.mat, .int .i64 x.test.part, .slice an x.test.names.length cn, .slice ak x.test.keys.length ck, .bool x.test.over, .int .i64 x.test.limit, .slice at' x.test.tests.length ct, .slice aa x.thn.length ca, .slice ae x.els.length ce] 60) := ⟨_, rfl⟩
  have HWE := hid hW0
  have HB0 := hid (show Below w.heap.size w W0 by rw [hW0]; exact (Below.refl _ _).alloc (Nat.le_refl _) _)
  have HC0 := hid (h.next HB0.out)
  have HCW := hid h
  have hs0 : W0.heap.size = w.heap.size + 1 := by rw [hW0]; simp
  clear h hW0
  go_enter Tryz.func67, Tryz.ntmps67
  go_wp2
  rw [← HWE.out]
  go_end0
  exact ⟨⟨_, rfl⟩, HC0.out, HB0.out.mono (by omega), Frm.below hlt.1 HB0.out⟩
set_option maxHeartbeats 1000000 in
set_option maxRecDepth 100000 in
theorem do_10 (B b : Nat) (c : Crs) (x : Cmd) (ax an ak at' aa ae : Option Addr) (cx cn ck ct ca ce : Nat) (w : World) (h : CrsB w B b c false) :
    Calls Tryz.prog 67 #[.pointer (some ⟨b, 0, none⟩), .agg #[.int .i64 10, .slice ax x.texts.length cx, .int .i64 x.test.kind, .int .i64 x.test.mat, .int .i64 x.test.part, .slice an x.test.names.length cn, .slice ak x.test.keys.length ck, .bool x.test.over, .int .i64 x.test.limit, .slice at' x.test.tests.length ct, .slice aa x.thn.length ca, .slice ae x.els.length ce]] w (StepR w B b (c, true)) := by
  have hlt := h.lt
  obtain ⟨W0, hW0⟩ : ∃ W0, W0 = w.alloc (.cells #[.int .i64 10, .slice ax x.texts.length cx, .int .i64 x.test.kind, .int .i64 x.test.mat, .int .i64 x.test.part, .slice an x.test.names.length cn, .slice ak x.test.keys.length ck, .bool x.test.over, .int .i64 x.test.limit, .slice at' x.test.tests.length ct, .slice aa x.thn.length ca, .slice ae x.els.length ce] 60) := ⟨_, rfl⟩
  have HWE := hid hW0
  have HB0 := hid (show Below w.heap.size w W0 by rw [hW0]; exact (Below.refl _ _).alloc (Nat.le_refl _) _)
  have HC0 := hid (h.next HB0.out)
  have HCW := hid h
  have hs0 : W0.heap.size = w.heap.size + 1 := by rw [hW0]; simp
  clear h hW0
  obtain ⟨a, k, h1, _⟩ := HC0.out
  obtain ⟨⟨q0, q1, q2, q3, q4⟩, f0, f1, f2, f3, f4⟩ := box5 h1
  have q4' := q4
  have f4' := f4
  rw [HWE.out] at q4' f4'
  have hz : (w.setCell ⟨b, 4, none⟩ (.bool true)).heap.size = w.heap.size := by simp [World.setCell]
  have HE := hid (show ∀ o, CrsB ((w.setCell ⟨b, 4, none⟩ (.bool true)).alloc o) B b c true ∧ Below B w ((w.setCell ⟨b, 4, none⟩ (.bool true)).alloc o) from fun o => ⟨CrsB.next (HCW.out.set 0 true).2 ((Below.refl _ _).alloc (Nat.le_refl _) _), ((Below.refl _ _).setCell (by simp; omega) _).alloc (by rw [hz]; omega) _⟩)
  clear h1
  go_enter Tryz.func67, Tryz.ntmps67
  go_wp2
  go_end0
  exact ⟨⟨_, rfl⟩, (HE.out _).1, (HE.out _).2, (Frm.set w (by omega) _).trans (Frm.below (by rw [hz]; omega) ((Below.refl _ _).alloc (Nat.le_refl _) _))⟩
set_option maxHeartbeats 1000000 in
set_option maxRecDepth 100000 in
theorem do_8 (B b : Nat) (c : Crs) (x : Cmd) (ax an ak at' aa ae : Option Addr) (cx cn ck ct ca ce : Nat) (w : World) (h : CrsB w B b c false) (hw : FlagsAt w) (hT : TxtsM anyB w (.slice ax x.texts.length cx) x.texts) :
    Calls Tryz.prog 67 #[.pointer (some ⟨b, 0, none⟩), .agg #[.int .i64 8, .slice ax x.texts.length cx, .int .i64 x.test.kind, .int .i64 x.test.mat, .int .i64 x.test.part, .slice an x.test.names.length cn, .slice ak x.test.keys.length ck, .bool x.test.over, .int .i64 x.test.limit, .slice at' x.test.tests.length ct, .slice aa x.thn.length ca, .slice ae x.els.length ce]] w (StepR w B b (⟨c.acts, (flagsZ x.texts : Nat), c.asked, c.fault⟩, false)) := by
  have hlt := h.lt
  obtain ⟨W0, hW0⟩ : ∃ W0, W0 = w.alloc (.cells #[.int .i64 8, .slice ax x.texts.length cx, .int .i64 x.test.kind, .int .i64 x.test.mat, .int .i64 x.test.part, .slice an x.test.names.length cn, .slice ak x.test.keys.length ck, .bool x.test.over, .int .i64 x.test.limit, .slice at' x.test.tests.length ct, .slice aa x.thn.length ca, .slice ae x.els.length ce] 60) := ⟨_, rfl⟩
  have HWE := hid hW0
  have HB0 := hid (show Below w.heap.size w W0 by rw [hW0]; exact (Below.refl _ _).alloc (Nat.le_refl _) _)
  have HC0 := hid (h.next HB0.out)
  have HCW := hid h
  have hs0 : W0.heap.size = w.heap.size + 1 := by rw [hW0]; simp
  clear h hW0
  have HF := hid (show ∀ y : Cmd, y = ⟨8, x.texts, x.test, x.thn, x.els⟩ → Calls Tryz.prog 93 #[.agg #[.int .i64 8, .slice ax x.texts.length cx, .int .i64 x.test.kind, .int .i64 x.test.mat, .int .i64 x.test.part, .slice an x.test.names.length cn, .slice ak x.test.keys.length ck, .bool x.test.over, .int .i64 x.test.limit, .slice at' x.test.tests.length ct, .slice aa x.thn.length ca, .slice ae x.els.length ce]] W0 fun e w' => e = .returned (.int .i64 (flagsZ x.texts : Nat)) ∧ Below W0.heap.size W0 w' from fun y hy => flagsOfJ_any ⟨8, x.texts, x.test, x.thn, x.els⟩ ax an ak at' aa ae cx cn ck ct ca ce W0 (hw.next HB0.out) (hT.next HB0.out))
  clear hw hT
  go_enter Tryz.func67, Tryz.ntmps67
  go_wp2_with fail
  rw [← HWE.out]
  refine (HF.out _ rfl).mono ?_
  rintro e w1 ⟨rfl, hb1⟩
  simp only
  have HC1 := hid (HC0.out.next hb1)
  have HB1 := hid (HB0.out.trans (hb1.mono HB0.out.size))
  obtain ⟨a, k, h1, _⟩ := HC1.out
  obtain ⟨⟨q0, q1, q2, q3, q4⟩, f0, f1, f2, f3, f4⟩ := box5 h1
  have HE := hid (HC1.out.set (flagsZ x.texts : Nat) true).1
  clear h1 hb1 HWE
  go_wp2
  go_end0
  exact ⟨⟨_, rfl⟩, HE.out, (HB1.out.mono (by omega)).setCell (by simp; omega) _, (Frm.below hlt.1 HB1.out).trans (Frm.set _ (by omega) _)⟩
set_option maxHeartbeats 1000000 in
set_option maxRecDepth 100000 in
theorem do_9 (B b : Nat) (c : Crs) (x : Cmd) (ax an ak at' aa ae : Option Addr) (cx cn ck ct ca ce : Nat) (w : World) (h : CrsB w B b c false) (hf0 : 0 ≤ c.flags) (hf1 : c.flags ≤ 31) (hw : FlagsAt w) (hT : TxtsM anyB w (.slice ax x.texts.length cx) x.texts) :
    Calls Tryz.prog 67 #[.pointer (some ⟨b, 0, none⟩), .agg #[.int .i64 9, .slice ax x.texts.length cx, .int .i64 x.test.kind, .int .i64 x.test.mat, .int .i64 x.test.part, .slice an x.test.names.length cn, .slice ak x.test.keys.length ck, .bool x.test.over, .int .i64 x.test.limit, .slice at' x.test.tests.length ct, .slice aa x.thn.length ca, .slice ae x.els.length ce]] w (StepR w B b (⟨c.acts, ((c.flags.toNat ||| flagsZ x.texts : Nat) : Int), c.asked, c.fault⟩, false)) := by
  have hlt := h.lt
  obtain ⟨W0, hW0⟩ : ∃ W0, W0 = w.alloc (.cells #[.int .i64 9, .slice ax x.texts.length cx, .int .i64 x.test.kind, .int .i64 x.test.mat, .int .i64 x.test.part, .slice an x.test.names.length cn, .slice ak x.test.keys.length ck, .bool x.test.over, .int .i64 x.test.limit, .slice at' x.test.tests.length ct, .slice aa x.thn.length ca, .slice ae x.els.length ce] 60) := ⟨_, rfl⟩
  have HWE := hid hW0
  have HB0 := hid (show Below w.heap.size w W0 by rw [hW0]; exact (Below.refl _ _).alloc (Nat.le_refl _) _)
  have HC0 := hid (h.next HB0.out)
  have HCW := hid h
  have hs0 : W0.heap.size = w.heap.size + 1 := by rw [hW0]; simp
  clear h hW0
  have HF := hid (show ∀ y : Cmd, y = ⟨9, x.texts, x.test, x.thn, x.els⟩ → Calls Tryz.prog 93 #[.agg #[.int .i64 9, .slice ax x.texts.length cx, .int .i64 x.test.kind, .int .i64 x.test.mat, .int .i64 x.test.part, .slice an x.test.names.length cn, .slice ak x.test.keys.length ck, .bool x.test.over, .int .i64 x.test.limit, .slice at' x.test.tests.length ct, .slice aa x.thn.length ca, .slice ae x.els.length ce]] W0 fun e w' => e = .returned (.int .i64 (flagsZ x.texts : Nat)) ∧ Below W0.heap.size W0 w' from fun y hy => flagsOfJ_any ⟨9, x.texts, x.test, x.thn, x.els⟩ ax an ak at' aa ae cx cn ck ct ca ce W0 (hw.next HB0.out) (hT.next HB0.out))
  have HFl := hid (hw.next HB0.out)
  have HTx := hid (hT.next HB0.out)
  have HV := hid (show bits .or .i64 c.flags ((flagsZ x.texts : Nat) : Int) = ((c.flags.toNat ||| flagsZ x.texts : Nat) : Int) by
    have h1 := bits_or (n := c.flags.toNat) (f := flagsZ x.texts) (by omega) (flagsZ_lt x.texts)
    rw [Int.toNat_of_nonneg hf0] at h1
    exact h1)
  have hH : W0.heap[w.heap.size]? = some (.cells #[.int .i64 9, .slice ax x.texts.length cx, .int .i64 x.test.kind, .int .i64 x.test.mat, .int .i64 x.test.part, .slice an x.test.names.length cn, .slice ak x.test.keys.length ck, .bool x.test.over, .int .i64 x.test.limit, .slice at' x.test.tests.length ct, .slice aa x.thn.length ca, .slice ae x.els.length ce] 60) := by rw [HWE.out]; exact heap_alloc_new w _
  have g0 : W0.cell? ⟨w.heap.size, 0, none⟩ = some (.int .i64 9) := by simp [World.cell?, hH]
  have g1 : W0.cell? ⟨w.heap.size, 1, none⟩ = some (.slice ax x.texts.length cx) := by simp [World.cell?, hH]
  have g2 : W0.cell? ⟨w.heap.size, 2, none⟩ = some (.int .i64 x.test.kind) := by simp [World.cell?, hH]
  have g3 : W0.cell? ⟨w.heap.size, 3, none⟩ = some (.int .i64 x.test.mat) := by simp [World.cell?, hH]
  have g4 : W0.cell? ⟨w.heap.size, 4, none⟩ = some (.int .i64 x.test.part) := by simp [World.cell?, hH]
  have g5 : W0.cell? ⟨w.heap.size, 5, none⟩ = some (.slice an x.test.names.length cn) := by simp [World.cell?, hH]
  have g6 : W0.cell? ⟨w.heap.size, 6, none⟩ = some (.slice ak x.test.keys.length ck) := by simp [World.cell?, hH]
  have g7 : W0.cell? ⟨w.heap.size, 7, none⟩ = some (.bool x.test.over) := by simp [World.cell?, hH]
  have g8 : W0.cell? ⟨w.heap.size, 8, none⟩ = some (.int .i64 x.test.limit) := by simp [World.cell?, hH]
  have g9 : W0.cell? ⟨w.heap.size, 9, none⟩ = some (.slice at' x.test.tests.length ct) := by simp [World.cell?, hH]
  have g10 : W0.cell? ⟨w.heap.size, 10, none⟩ = some (.slice aa x.thn.length ca) := by simp [World.cell?, hH]
  have g11 : W0.cell? ⟨w.heap.size, 11, none⟩ = some (.slice ae x.els.length ce) := by simp [World.cell?, hH]
  clear hH
  obtain ⟨a, k, h1, _⟩ := HC0.out
  obtain ⟨⟨q0, q1, q2, q3, q4⟩, f0, f1, f2, f3, f4⟩ := box5 h1
  clear hw hT h1 HF
  go_enter Tryz.func67, Tryz.ntmps67
  go_wp2
  rw [← HWE.out]
  go_region_law
    (go_simp
     go_at_call 93
     refine (flagsOfJ_any ⟨9, x.texts, x.test, x.thn, x.els⟩ ax an ak at' aa ae cx cn ck ct ca ce _ (by exact HFl.out) (by exact HTx.out)).mono ?_
     rintro e w1 ⟨rfl, hb1⟩
     have HC1 := hid (CrsB.next (w := W0.drew) HC0.out hb1)
     have HB1 := hid (show Below w.heap.size w w1 from HB0.out.drew.trans (hb1.mono HB0.out.drew.size))
     obtain ⟨a', k', h1', _⟩ := HC1.out
     obtain ⟨⟨t0, t1, t2, t3, t4⟩, u0, u1, u2, u3, u4⟩ := box5 h1'
     clear hb1 h1')
  all_goals
    have HE := hid (HC1.out.set ((c.flags.toNat ||| flagsZ x.texts : Nat) : Int) true).1
    go_wp2
    rw [HV.out]
    go_end0
    exact ⟨⟨_, rfl⟩, HE.out, (HB1.out.mono (by omega)).setCell (by simp; omega) _, (Frm.below hlt.1 HB1.out).trans (Frm.set _ (by omega) _)⟩
set_option maxHeartbeats 1000000 in
set_option maxRecDepth 100000 in
theorem do_3 (B b : Nat) (c : Crs) (x : Cmd) (ax an ak at' aa ae : Option Addr) (cx cn ck ct ca ce : Nat) (w : World) (h : CrsB w B b c false) (hl : c.acts.length ≤ 6) :
    Calls Tryz.prog 67 #[.pointer (some ⟨b, 0, none⟩), .agg #[.int .i64 3, .slice ax x.texts.length cx, .int .i64 x.test.kind, .int .i64 x.test.mat, .int .i64 x.test.part, .slice an x.test.names.length cn, .slice ak x.test.keys.length ck, .bool x.test.over, .int .i64 x.test.limit, .slice at' x.test.tests.length ct, .slice aa x.thn.length ca, .slice ae x.els.length ce]] w (StepR w B b (askP c ⟨3, [], c.flags⟩)) := by
  have hlt := h.lt
  obtain ⟨W0, hW0⟩ : ∃ W0, W0 = w.alloc (.cells #[.int .i64 3, .slice ax x.texts.length cx, .int .i64 x.test.kind, .int .i64 x.test.mat, .int .i64 x.test.part, .slice an x.test.names.length cn, .slice ak x.test.keys.length ck, .bool x.test.over, .int .i64 x.test.limit, .slice at' x.test.tests.length ct, .slice aa x.thn.length ca, .slice ae x.els.length ce] 60) := ⟨_, rfl⟩
  have HWE := hid hW0
  have HB0 := hid (show Below w.heap.size w W0 by rw [hW0]; exact (Below.refl _ _).alloc (Nat.le_refl _) _)
  have HC0 := hid (h.next HB0.out)
  have HCW := hid h
  have hs0 : W0.heap.size = w.heap.size + 1 := by rw [hW0]; simp
  clear h hW0
  obtain ⟨a, k, h1, _⟩ := HC0.out
  obtain ⟨⟨q0, q1, q2, q3, q4⟩, f0, f1, f2, f3, f4⟩ := box5 h1
  have HA := hid (actionOf_3 b c.flags x ax an ak at' aa ae cx cn ck ct ca ce W0 q1)
  obtain ⟨y, hy⟩ : ∃ y : Atn, y = ⟨3, [], c.flags⟩ := ⟨_, rfl⟩
  rw [← hy] at HA
  rw [← hy]
  clear h1 q0 q1 q2 q3 q4 f0 f1 f2 f3 f4 hy
  go_enter Tryz.func67, Tryz.ntmps67
  go_wp2_with fail
  rw [← HWE.out]
  refine HA.out.mono ?_
  rintro e w1 ⟨rfl, hb1⟩
  simp only
  have HC1 := hid (HC0.out.next hb1)
  have HB1 := hid (HB0.out.trans (hb1.mono HB0.out.size))
  clear hb1 HWE
  go_wp2_with fail
  refine (ask_any B b c y w1 HC1.out hl).mono ?_
  rintro e w2 ⟨⟨v, rfl⟩, hc2, hb2, hf2⟩
  simp only
  have HC2 := hid hc2
  have HB2 := hid ((HB1.out.mono (by omega)).trans hb2)
  have HF2 := hid ((Frm.below hlt.1 HB1.out).trans hf2)
  clear hc2 hb2 hf2
  go_wp2
  go_end0
  exact ⟨⟨_, rfl⟩, HC2.out, HB2.out, HF2.out⟩
set_option maxHeartbeats 1000000 in
set_option maxRecDepth 100000 in
theorem do_4 (B b : Nat) (c : Crs) (x : Cmd) (ax an ak at' aa ae : Option Addr) (cx cn ck ct ca ce : Nat) (w : World) (h : CrsB w B b c false) (hl : c.acts.length ≤ 6) :
    Calls Tryz.prog 67 #[.pointer (some ⟨b, 0, none⟩), .agg #[.int .i64 4, .slice ax x.texts.length cx, .int .i64 x.test.kind, .int .i64 x.test.mat, .int .i64 x.test.part, .slice an x.test.names.length cn, .slice ak x.test.keys.length ck, .bool x.test.over, .int .i64 x.test.limit, .slice at' x.test.tests.length ct, .slice aa x.thn.length ca, .slice ae x.els.length ce]] w (StepR w B b (askP c ⟨4, [], 0⟩)) := by
  have hlt := h.lt
  obtain ⟨W0, hW0⟩ : ∃ W0, W0 = w.alloc (.cells #[.int .i64 4, .slice ax x.texts.length cx, .int .i64 x.test.kind, .int .i64 x.test.mat, .int .i64 x.test.part, .slice an x.test.names.length cn, .slice ak x.test.keys.length ck, .bool x.test.over, .int .i64 x.test.limit, .slice at' x.test.tests.length ct, .slice aa x.thn.length ca, .slice ae x.els.length ce] 60) := ⟨_, rfl⟩
  have HWE := hid hW0
  have HB0 := hid (show Below w.heap.size w W0 by rw [hW0]; exact (Below.refl _ _).alloc (Nat.le_refl _) _)
  have HC0 := hid (h.next HB0.out)
  have HCW := hid h
  have hs0 : W0.heap.size = w.heap.size + 1 := by rw [hW0]; simp
  clear h hW0
  obtain ⟨a, k, h1, _⟩ := HC0.out
  obtain ⟨⟨q0, q1, q2, q3, q4⟩, f0, f1, f2, f3, f4⟩ := box5 h1
  have HA := hid (actionOf_4 b c.flags x ax an ak at' aa ae cx cn ck ct ca ce W0 q1)
  obtain ⟨y, hy⟩ : ∃ y : Atn, y = ⟨4, [], 0⟩ := ⟨_, rfl⟩
  rw [← hy] at HA
  rw [← hy]
  clear h1 q0 q1 q2 q3 q4 f0 f1 f2 f3 f4 hy
  go_enter Tryz.func67, Tryz.ntmps67
  go_wp2_with fail
  rw [← HWE.out]
  refine HA.out.mono ?_
  rintro e w1 ⟨rfl, hb1⟩
  simp only
  have HC1 := hid (HC0.out.next hb1)
  have HB1 := hid (HB0.out.trans (hb1.mono HB0.out.size))
  clear hb1 HWE
  go_wp2_with fail
  refine (ask_any B b c y w1 HC1.out hl).mono ?_
  rintro e w2 ⟨⟨v, rfl⟩, hc2, hb2, hf2⟩
  simp only
  have HC2 := hid hc2
  have HB2 := hid ((HB1.out.mono (by omega)).trans hb2)
  have HF2 := hid ((Frm.below hlt.1 HB1.out).trans hf2)
  clear hc2 hb2 hf2
  go_wp2
  go_end0
  exact ⟨⟨_, rfl⟩, HC2.out, HB2.out, HF2.out⟩
set_option maxHeartbeats 1000000 in
set_option maxRecDepth 100000 in
theorem do_5 (B b : Nat) (c : Crs) (x : Cmd) (ax an ak at' aa ae : Option Addr) (cx cn ck ct ca ce : Nat) (w : World) (h : CrsB w B b c false) (hT : TxtsM anyB w (.slice ax x.texts.length cx) x.texts) (h0 : x.texts ≠ []) (hl : c.acts.length ≤ 6) :
    Calls Tryz.prog 67 #[.pointer (some ⟨b, 0, none⟩), .agg #[.int .i64 5, .slice ax x.texts.length cx, .int .i64 x.test.kind, .int .i64 x.test.mat, .int .i64 x.test.part, .slice an x.test.names.length cn, .slice ak x.test.keys.length ck, .bool x.test.over, .int .i64 x.test.limit, .slice at' x.test.tests.length ct, .slice aa x.thn.length ca, .slice ae x.els.length ce]] w (StepR w B b (askP c ⟨5, x.texts.getD 0 [], c.flags⟩)) := by
  have hlt := h.lt
  obtain ⟨W0, hW0⟩ : ∃ W0, W0 = w.alloc (.cells #[.int .i64 5, .slice ax x.texts.length cx, .int .i64 x.test.kind, .int .i64 x.test.mat, .int .i64 x.test.part, .slice an x.test.names.length cn, .slice ak x.test.keys.length ck, .bool x.test.over, .int .i64 x.test.limit, .slice at' x.test.tests.length ct, .slice aa x.thn.length ca, .slice ae x.els.length ce] 60) := ⟨_, rfl⟩
  have HWE := hid hW0
  have HB0 := hid (show Below w.heap.size w W0 by rw [hW0]; exact (Below.refl _ _).alloc (Nat.le_refl _) _)
  have HC0 := hid (h.next HB0.out)
  have HCW := hid h
  have hs0 : W0.heap.size = w.heap.size + 1 := by rw [hW0]; simp
  clear h hW0
  obtain ⟨a, k, h1, _⟩ := HC0.out
  obtain ⟨⟨q0, q1, q2, q3, q4⟩, f0, f1, f2, f3, f4⟩ := box5 h1
  have HA := hid (actionOf_5 b c.flags x ax an ak at' aa ae cx cn ck ct ca ce W0 q1 (hT.next HB0.out) h0)
  obtain ⟨y, hy⟩ : ∃ y : Atn, y = ⟨5, x.texts.getD 0 [], c.flags⟩ := ⟨_, rfl⟩
  rw [← hy] at HA
  rw [← hy]
  clear h1 q0 q1 q2 q3 q4 f0 f1 f2 f3 f4 hy
  go_enter Tryz.func67, Tryz.ntmps67
  go_wp2_with fail
  rw [← HWE.out]
  refine HA.out.mono ?_
  rintro e w1 ⟨rfl, hb1⟩
  simp only
  have HC1 := hid (HC0.out.next hb1)
  have HB1 := hid (HB0.out.trans (hb1.mono HB0.out.size))
  clear hb1 HWE
  go_wp2_with fail
  refine (ask_any B b c y w1 HC1.out hl).mono ?_
  rintro e w2 ⟨⟨v, rfl⟩, hc2, hb2, hf2⟩
  simp only
  have HC2 := hid hc2
  have HB2 := hid ((HB1.out.mono (by omega)).trans hb2)
  have HF2 := hid ((Frm.below hlt.1 HB1.out).trans hf2)
  clear hc2 hb2 hf2
  go_wp2
  go_end0
  exact ⟨⟨_, rfl⟩, HC2.out, HB2.out, HF2.out⟩
set_option maxHeartbeats 1000000 in
set_option maxRecDepth 100000 in
theorem do_6 (B b : Nat) (c : Crs) (x : Cmd) (ax an ak at' aa ae : Option Addr) (cx cn ck ct ca ce : Nat) (w : World) (h : CrsB w B b c false) (hT : TxtsM anyB w (.slice ax x.texts.length cx) x.texts) (h0 : x.texts ≠ []) (hg : goalP (x.texts.getD 0 []) = 0) (hs : (x.texts.getD 0 []).length ≤ 2000) (hl : c.acts.length ≤ 6) :
    Calls Tryz.prog 67 #[.pointer (some ⟨b, 0, none⟩), .agg #[.int .i64 6, .slice ax x.texts.length cx, .int .i64 x.test.kind, .int .i64 x.test.mat, .int .i64 x.test.part, .slice an x.test.names.length cn, .slice ak x.test.keys.length ck, .bool x.test.over, .int .i64 x.test.limit, .slice at' x.test.tests.length ct, .slice aa x.thn.length ca, .slice ae x.els.length ce]] w (StepR w B b (askP c ⟨6, goalT (x.texts.getD 0 []), 0⟩)) := by
  have hlt := h.lt
  obtain ⟨W0, hW0⟩ : ∃ W0, W0 = w.alloc (.cells #[.int .i64 6, .slice ax x.texts.length cx, .int .i64 x.test.kind, .int .i64 x.test.mat, .int .i64 x.test.part, .slice an x.test.names.length cn, .slice ak x.test.keys.length ck, .bool x.test.over, .int .i64 x.test.limit, .slice at' x.test.tests.length ct, .slice aa x.thn.length ca, .slice ae x.els.length ce] 60) := ⟨_, rfl⟩
  have HWE := hid hW0
  have HB0 := hid (show Below w.heap.size w W0 by rw [hW0]; exact (Below.refl _ _).alloc (Nat.le_refl _) _)
  have HC0 := hid (h.next HB0.out)
  have HCW := hid h
  have hs0 : W0.heap.size = w.heap.size + 1 := by rw [hW0]; simp
  clear h hW0
  obtain ⟨a, k, h1, _⟩ := HC0.out
  obtain ⟨⟨q0, q1, q2, q3, q4⟩, f0, f1, f2, f3, f4⟩ := box5 h1
  have HA := hid (actionOf_6 b c.flags x ax an ak at' aa ae cx cn ck ct ca ce W0 q1 (hT.next HB0.out) h0 hg hs)
  obtain ⟨y, hy⟩ : ∃ y : Atn, y = ⟨6, goalT (x.texts.getD 0 []), 0⟩ := ⟨_, rfl⟩
  rw [← hy] at HA
  rw [← hy]
  clear h1 q0 q1 q2 q3 q4 f0 f1 f2 f3 f4 hy
  go_enter Tryz.func67, Tryz.ntmps67
  go_wp2_with fail
  rw [← HWE.out]
  refine HA.out.mono ?_
  rintro e w1 ⟨rfl, hb1⟩
  simp only
  have HC1 := hid (HC0.out.next hb1)
  have HB1 := hid (HB0.out.trans (hb1.mono HB0.out.size))
  clear hb1 HWE
  go_wp2_with fail
  refine (ask_any B b c y w1 HC1.out hl).mono ?_
  rintro e w2 ⟨⟨v, rfl⟩, hc2, hb2, hf2⟩
  simp only
  have HC2 := hid hc2
  have HB2 := hid ((HB1.out.mono (by omega)).trans hb2)
  have HF2 := hid ((Frm.below hlt.1 HB1.out).trans hf2)
  clear hc2 hb2 hf2
  go_wp2
  go_end0
  exact ⟨⟨_, rfl⟩, HC2.out, HB2.out, HF2.out⟩
set_option maxHeartbeats 1000000 in
set_option maxRecDepth 100000 in
theorem do_7 (B b : Nat) (c : Crs) (x : Cmd) (ax an ak at' aa ae : Option Addr) (cx cn ck ct ca ce : Nat) (w : World) (h : CrsB w B b c false) (hT : TxtsM anyB w (.slice ax x.texts.length cx) x.texts) (h0 : x.texts ≠ []) (hl : c.acts.length ≤ 6) :
    Calls Tryz.prog 67 #[.pointer (some ⟨b, 0, none⟩), .agg #[.int .i64 7, .slice ax x.texts.length cx, .int .i64 x.test.kind, .int .i64 x.test.mat, .int .i64 x.test.part, .slice an x.test.names.length cn, .slice ak x.test.keys.length ck, .bool x.test.over, .int .i64 x.test.limit, .slice at' x.test.tests.length ct, .slice aa x.thn.length ca, .slice ae x.els.length ce]] w (StepR w B b (askP c ⟨7, x.texts.getD 0 [], 0⟩)) := by
  have hlt := h.lt
  obtain ⟨W0, hW0⟩ : ∃ W0, W0 = w.alloc (.cells #[.int .i64 7, .slice ax x.texts.length cx, .int .i64 x.test.kind, .int .i64 x.test.mat, .int .i64 x.test.part, .slice an x.test.names.length cn, .slice ak x.test.keys.length ck, .bool x.test.over, .int .i64 x.test.limit, .slice at' x.test.tests.length ct, .slice aa x.thn.length ca, .slice ae x.els.length ce] 60) := ⟨_, rfl⟩
  have HWE := hid hW0
  have HB0 := hid (show Below w.heap.size w W0 by rw [hW0]; exact (Below.refl _ _).alloc (Nat.le_refl _) _)
  have HC0 := hid (h.next HB0.out)
  have HCW := hid h
  have hs0 : W0.heap.size = w.heap.size + 1 := by rw [hW0]; simp
  clear h hW0
  obtain ⟨a, k, h1, _⟩ := HC0.out
  obtain ⟨⟨q0, q1, q2, q3, q4⟩, f0, f1, f2, f3, f4⟩ := box5 h1
  have HA := hid (actionOf_7 b c.flags x ax an ak at' aa ae cx cn ck ct ca ce W0 q1 (hT.next HB0.out) h0)
  obtain ⟨y, hy⟩ : ∃ y : Atn, y = ⟨7, x.texts.getD 0 [], 0⟩ := ⟨_, rfl⟩
  rw [← hy] at HA
  rw [← hy]
  clear h1 q0 q1 q2 q3 q4 f0 f1 f2 f3 f4 hy
  go_enter Tryz.func67, Tryz.ntmps67
  go_wp2_with fail
  rw [← HWE.out]
  refine HA.out.mono ?_
  rintro e w1 ⟨rfl, hb1⟩
  simp only
  have HC1 := hid (HC0.out.next hb1)
  have HB1 := hid (HB0.out.trans (hb1.mono HB0.out.size))
  clear hb1 HWE
  go_wp2_with fail
  refine (ask_any B b c y w1 HC1.out hl).mono ?_
  rintro e w2 ⟨⟨v, rfl⟩, hc2, hb2, hf2⟩
  simp only
  have HC2 := hid hc2
  have HB2 := hid ((HB1.out.mono (by omega)).trans hb2)
  have HF2 := hid ((Frm.below hlt.1 HB1.out).trans hf2)
  clear hc2 hb2 hf2
  go_wp2
  go_end0
  exact ⟨⟨_, rfl⟩, HC2.out, HB2.out, HF2.out⟩
/-- What is asked of a command that is done. -/
def MayDo (x : Cmd) : Prop := (x.kind = 1 ∨ x.kind = 3 ∨ x.kind = 4 ∨ x.kind = 5 ∨ x.kind = 6 ∨ x.kind = 7 ∨ x.kind = 8 ∨ x.kind = 9 ∨ x.kind = 10) ∧ (x.kind = 5 ∨ x.kind = 6 ∨ x.kind = 7 → x.texts ≠ []) ∧ (x.kind = 6 → goalP (x.texts.getD 0 []) = 0)
theorem goal_len {s : List UInt8} (h : goalP s = 0) : s.length ≤ 2000 := by
  unfold goalP at h
  by_cases hl : 2000 < s.length
  · rw [if_neg (by unfold listM; rw [if_pos hl]; simp)] at h
    cases h
  · omega
theorem do_any (B b : Nat) (c : Crs) (x : Cmd) (ax an ak at' aa ae : Option Addr) (cx cn ck ct ca ce : Nat) (w : World) (h : CrsB w B b c false) (hl : c.acts.length ≤ 6) (hf0 : 0 ≤ c.flags) (hf1 : c.flags ≤ 31) (hw : FlagsAt w) (hT : TxtsM anyB w (.slice ax x.texts.length cx) x.texts) (hP : MayDo x) :
    Calls Tryz.prog 67 #[.pointer (some ⟨b, 0, none⟩), .agg #[.int .i64 x.kind, .slice ax x.texts.length cx, .int .i64 x.test.kind, .int .i64 x.test.mat, .int .i64 x.test.part, .slice an x.test.names.length cn, .slice ak x.test.keys.length ck, .bool x.test.over, .int .i64 x.test.limit, .slice at' x.test.tests.length ct, .slice aa x.thn.length ca, .slice ae x.els.length ce]] w (StepR w B b (doP c x)) := by
  obtain ⟨hk, h5, h6⟩ := hP
  obtain ⟨kd, tx, ts, th, el⟩ := x
  simp only at hk h5 h6 hT ⊢
  rcases hk with rfl | rfl | rfl | rfl | rfl | rfl | rfl | rfl | rfl
  · exact do_1 B b c ⟨1, tx, ts, th, el⟩ ax an ak at' aa ae cx cn ck ct ca ce w h
  · exact do_3 B b c ⟨3, tx, ts, th, el⟩ ax an ak at' aa ae cx cn ck ct ca ce w h hl
  · exact do_4 B b c ⟨4, tx, ts, th, el⟩ ax an ak at' aa ae cx cn ck ct ca ce w h hl
  · exact do_5 B b c ⟨5, tx, ts, th, el⟩ ax an ak at' aa ae cx cn ck ct ca ce w h hT (h5 (by decide)) hl
  · exact do_6 B b c ⟨6, tx, ts, th, el⟩ ax an ak at' aa ae cx cn ck ct ca ce w h hT (h5 (by decide)) (h6 rfl) (goal_len (h6 rfl)) hl
  · exact do_7 B b c ⟨7, tx, ts, th, el⟩ ax an ak at' aa ae cx cn ck ct ca ce w h hT (h5 (by decide)) hl
  · exact do_8 B b c ⟨8, tx, ts, th, el⟩ ax an ak at' aa ae cx cn ck ct ca ce w h hw hT
  · exact do_9 B b c ⟨9, tx, ts, th, el⟩ ax an ak at' aa ae cx cn ck ct ca ce w h hf0 hf1 hw hT
  · exact do_10 B b c ⟨10, tx, ts, th, el⟩ ax an ak at' aa ae cx cn ck ct ca ce w h
theorem askP_len (c : Crs) (a : Atn) (h : c.acts.length ≤ 6) : (askP c a).1.acts.length ≤ 6 := by
  unfold askP
  split
  · exact h
  · split
    · exact h
    · split
      · exact h
      · simp; omega
theorem doP_len (c : Crs) (x : Cmd) (h : c.acts.length ≤ 6) : (doP c x).1.acts.length ≤ 6 := by
  unfold doP
  split
  · exact h
  · split
    · exact h
    · split
      · exact h
      · split
        · exact h
        · exact askP_len c _ h
theorem own_none {B : Nat} {w : World} {a : Option Addr} {k : Nat} {l : List Atn} (h : OwnAs B w (.slice a l.length k) l) : a = none → l = [] ∧ k = 0 := by
  intro ha
  obtain ⟨css, h1, _⟩ := h
  rcases h1.2 with ⟨e, hn⟩ | ⟨g, cap, cur, e, _⟩
  · simp only [Value.slice.injEq] at e
    exact ⟨List.length_eq_zero_iff.1 hn, e.2.2⟩
  · simp only [Value.slice.injEq] at e
    rw [ha] at e
    cases e.1
end Go.Proofs.YtmnlaijggoojkaaGreatDoor
