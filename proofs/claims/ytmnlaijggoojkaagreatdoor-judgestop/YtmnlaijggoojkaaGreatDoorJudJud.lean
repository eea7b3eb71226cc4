/-
  What judge.Judge and judge.End do: the walks.
-/
import Derived.Test.YtmnlaijggoojkaaGreatDoorJudFol
namespace Go.Proofs.YtmnlaijggoojkaaGreatDoor
open Go.RowKit Go.Proofs

def newC : Crs := ⟨[], 0, false, 0⟩
/-- P7.6: the course of a script. -/
def judgeP (o : Opn) (n : Nat) (l : List Cmd) : Crs := (followP o n l (newC, false)).1
/-- What comes back with a course. -/
def CrsR (w : World) (r : Crs) (e : Ending) (w' : World) : Prop := ∃ a k, e = .returned (.tuple #[.agg #[.slice a r.acts.length k, .int .i64 r.flags, .bool r.asked, .int .i64 r.fault], .int .i64 0]) ∧ AtnsM anyB w' (.slice a r.acts.length k) r.acts ∧ (a = none → r.acts = [] ∧ k = 0) ∧ Below w.heap.size w w'
theorem new_ok : crsOk newC := ⟨by simp [newC], by simp [newC], by simp [newC]⟩
theorem judge_ok (o : Opn) (n : Nat) (l : List Cmd) : crsOk (judgeP o n l) := follow_ok o n l _ new_ok

set_option maxHeartbeats 2000000 in
set_option maxRecDepth 100000 in
theorem Judge_ok (n : Nat) (l : List Cmd) (a : Option Addr) (k : Nat) (o : Opn) (w : World) (hw : Tabs w) (hm : maxLenCell w) (hj : Opened o) (hk : l.length ≤ k) (hn : l = [] → a = none ∧ k = 0) (hs : ∀ x ∈ l, ShortC (n + 1) x) (hC : CmdsM anyB (n + 1) w (.slice a l.length k) l) (hr : ruleM (n + 1) l = 0) (hg : ∀ x ∈ l, goodC (n + 1) x) :
    Calls Tryz.prog 18 #[.slice a l.length k, .agg #[.string (S o.fl), .string (S o.fd), .string (S o.tl), .string (S o.td), .string (S o.tx)]] w (CrsR w (judgeP o (n + 1) l)) := by
  have HW := hid hw
  have HM := hid hm
  have HJ := hid hj
  have HCM := hid hC
  have HG := hid hg
  have HOK := hid (opened_ok hj).1
  have hlm := hC.small
  obtain ⟨W0, hW0⟩ : ∃ W0, W0 = (w.alloc (.cells #[.string (S o.fl), .string (S o.fd), .string (S o.tl), .string (S o.td), .string (S o.tx)] 33)).alloc (.cells #[.slice none 0 0, .int .i64 0, .bool false, .int .i64 0] 64) := ⟨_, rfl⟩
  have HWE := hid hW0
  have HB0 := hid (show Below w.heap.size w W0 by rw [hW0]; exact ((Below.refl _ _).alloc (Nat.le_refl _) _).alloc (by simp) _)
  have HL0 := hid (show W0.heap[w.heap.size]? = some (.cells #[.string (S o.fl), .string (S o.fd), .string (S o.tl), .string (S o.td), .string (S o.tx)] 33) by rw [hW0]; exact tl_old _ (tl_at _ rfl))
  have HR0 := hid (show W0.heap[w.heap.size + 1]? = some (.cells #[.slice none 0 0, .int .i64 0, .bool false, .int .i64 0] 64) by rw [hW0]; exact tl_at _ (by simp))
  have HCH := hid (show Calls Tryz.prog 28 #[.slice a l.length k] W0 fun e w' => e = .returned (.int .i64 0) ∧ Below W0.heap.size W0 w' by
    have := rcheck_any n l a k W0 (hw.next HB0.out) hk hn hs (CmdsM.next hC HB0.out)
    rw [hr] at this
    exact this)
  obtain ⟨r, hrr⟩ : ∃ r, r = followP o (n + 1) l (newC, false) := ⟨_, rfl⟩
  have HRR := hid hrr
  have HLEN := hid (show crsOk r.1 by rw [hrr]; exact follow_ok o (n + 1) l _ new_ok)
  rw [show judgeP o (n + 1) l = r.1 by rw [hrr]; rfl]
  clear hw hm hj hk hn hs hC hr hg hW0 hrr
  go_enter Tryz.func18, Tryz.ntmps18
  go_wp2_with fail
  rw [← HWE.out]
  refine HCH.out.mono ?_
  rintro e w1 ⟨rfl, hb1⟩
  simp only
  have HB1 := hid (HB0.out.trans (hb1.mono HB0.out.size))
  have hL1 := tl_low hb1 HL0.out
  have HR1 := hid (tl_low hb1 HR0.out)
  have l0 := tl_cell (j := 0) hL1 rfl
  have l1 := tl_cell (j := 1) hL1 rfl
  have l2 := tl_cell (j := 2) hL1 rfl
  have l3 := tl_cell (j := 3) hL1 rfl
  have l4 := tl_cell (j := 4) hL1 rfl
  have HOP := hid (open_ok o w1 HJ.out (maxLenCell_below HM.out HB1.out))
  clear hb1 hL1 HWE HCH
  go_wp2_with fail
  refine HOP.out.mono ?_
  rintro e w2 ⟨fa, fc, rfl, hF2, hb2⟩
  simp only
  obtain ⟨W3, hW3⟩ : ∃ W3, W3 = w2.alloc (.cells #[.string (S o.fl), .string (S o.fd), .string (S o.tl), .string (S o.td), .string (S o.tx), .slice fa o.fs.length fc, .string (S o.body)] 81) := ⟨_, rfl⟩
  have HA3 := hid (show Below w2.heap.size w2 W3 by rw [hW3]; exact (Below.refl _ _).alloc (Nat.le_refl _) _)
  have HB3 := hid (show Below w.heap.size w W3 from HB1.out.trans ((hb2.trans (HA3.out.mono hb2.size)).mono HB1.out.size))
  have HR3 := hid (tl_low HA3.out (tl_low hb2 HR1.out))
  have hO3 : W3.heap[w2.heap.size]? = some (.cells #[.string (S o.fl), .string (S o.fd), .string (S o.tl), .string (S o.td), .string (S o.tx), .slice fa o.fs.length fc, .string (S o.body)] 81) := by rw [hW3]; exact tl_at _ rfl
  obtain ⟨W4, hW4⟩ : ∃ W4, W4 = W3.alloc (.cells #[.slice none 0 0, .int .i64 0, .bool false, .int .i64 0, .bool false] 90) := ⟨_, rfl⟩
  have HWE4 := hid (show W4 = (w2.alloc (.cells #[.string (S o.fl), .string (S o.fd), .string (S o.tl), .string (S o.td), .string (S o.tx), .slice fa o.fs.length fc, .string (S o.body)] 81)).alloc (.cells #[.slice none 0 0, .int .i64 0, .bool false, .int .i64 0, .bool false] 90) by rw [hW4, hW3])
  have HA4 := hid (show Below W3.heap.size W3 W4 by rw [hW4]; exact (Below.refl _ _).alloc (Nat.le_refl _) _)
  have HC4 := hid (show CrsB W4 W3.heap.size W3.heap.size newC false from ⟨none, 0, by rw [hW4]; exact tl_at _ rfl, ⟨[], World.ownsRow_nil _ _ _ _, rfl, (fun cs h => by cases h), fun i x cs h => by simp [newC] at h⟩, by simp [Value.ownBlock], Nat.le_refl _⟩)
  have HFO := hid (follow_any o fa fc HOK.out (n + 1) l a k W3 W3.heap.size W3.heap.size (newC, false) W4 (Nat.le_refl _) HA4.out (HW.out.next HB3.out) (maxLenCell_below HM.out HB3.out) (hF2.below HA3.out) (CmdsM.next HCM.out HB3.out) HG.out HC4.out new_ok)
  rw [← HRR.out] at HFO
  have hO4 := tl_low HA4.out hO3
  have hzz : W3.heap.size = w2.heap.size + 1 := by rw [hW3]; simp
  have HZ := hid hzz
  rw [HWE4.out] at hO4
  have z0 := tl_cell (j := 0) hO4 rfl
  have z1 := tl_cell (j := 1) hO4 rfl
  have z2 := tl_cell (j := 2) hO4 rfl
  have z3 := tl_cell (j := 3) hO4 rfl
  have z4 := tl_cell (j := 4) hO4 rfl
  have z5 := tl_cell (j := 5) hO4 rfl
  have z6 := tl_cell (j := 6) hO4 rfl
  clear hF2 hb2 hW3 hO3 hW4 hO4 hzz HOP l0 l1 l2 l3 l4
  rw [show (Value.pointer (some ⟨W3.heap.size, 0, none⟩)) = .pointer (some ⟨w2.heap.size + 1, 0, none⟩) by rw [HZ.out]] at HFO
  go_wp2_with fail
  rw [← HWE4.out]
  refine HFO.out.mono ?_
  rintro e w5 ⟨⟨rv, rfl⟩, hc5, hb5, _⟩
  simp only
  obtain ⟨a5, k5, h5, hO5, hne5, hB5⟩ := hc5
  have HO5 := hid hO5
  have HL5 := hid (Array.getElem?_eq_some_iff.1 h5).1
  have hrb : w.heap.size + 1 < W3.heap.size := (Array.getElem?_eq_some_iff.1 HR3.out).1
  have hR5 : w5.heap[w.heap.size + 1]? = some (.cells #[.slice none 0 0, .int .i64 0, .bool false, .int .i64 0] 64) := ((HA4.out.trans hb5).block (w.heap.size + 1) hrb).trans HR3.out
  have HB5 := hid (show Below w.heap.size w w5 from HB3.out.trans ((HA4.out.trans hb5).mono HB3.out.size))
  rw [HZ.out] at h5
  obtain ⟨⟨q0, q1, q2, q3, q4⟩, f0, f1, f2, f3, f4⟩ := box5 h5
  have r0 := tl_cell (j := 0) hR5 rfl
  have r1 := tl_cell (j := 1) hR5 rfl
  have r2 := tl_cell (j := 2) hR5 rfl
  have r3 := tl_cell (j := 3) hR5 rfl
  have fr : ∀ j, w5.frozen? ⟨w.heap.size + 1, j, none⟩ = false := fun j => by simp only [World.frozen?, hR5]; simp
  have g0 := fr 0
  have g1 := fr 1
  have g2 := fr 2
  have g3 := fr 3
  have HE := hid (show CrsR w r.1 (.returned (.tuple #[.agg #[.slice a5 r.1.acts.length k5, .int .i64 r.1.flags, .bool r.1.asked, .int .i64 r.1.fault], .int .i64 0])) ((((w5.setCell ⟨w.heap.size + 1, 0, none⟩ (.slice a5 r.1.acts.length k5)).setCell ⟨w.heap.size + 1, 1, none⟩ (.int .i64 r.1.flags)).setCell ⟨w.heap.size + 1, 2, none⟩ (.bool r.1.asked)).setCell ⟨w.heap.size + 1, 3, none⟩ (.int .i64 r.1.fault)) from
    ⟨a5, k5, rfl, RowM.imp (OwnRow.rowM firm_atn ((((HO5.out.far hrb).far hrb).far hrb).far hrb) (by have h6 := HLEN.out.1; unfold maxLen; omega)) (fun _ _ => trivial) (Keeps.refl _ _) (fun _ _ h => h), own_none HO5.out, (((HB5.out.setCell (by simp) _).setCell (by simp) _).setCell (by simp) _).setCell (by simp) _⟩)
  clear hb5 hO5 hne5 hB5 hR5 h5 fr HFO HWE4 z0 z1 z2 z3 z4 z5 z6 hrb f0 f1 f2 f3 f4
  go_wp2
  refine bodyPost_ret (v := .tuple #[.agg #[.slice a5 r.1.acts.length k5, .int .i64 r.1.flags, .bool r.1.asked, .int .i64 r.1.fault], .int .i64 0]) (by simp [results, Tryz.results18, go_sem, *]) rfl ?_
  exact HE.out

/- End. -/
/-- P7.5: what is done. -/
def endP (c : Crs) : List Atn := if c.fault ≠ 0 then [⟨3, [], 0⟩] else if c.asked = false then [⟨3, [], c.flags⟩] else c.acts
def EndR (w : World) (l : List Atn) (e : Ending) (w' : World) : Prop := ∃ a k, e = .returned (.tuple #[.slice a l.length k, .int .i64 0]) ∧ AtnsM anyB w' (.slice a l.length k) l ∧ Below w.heap.size w w'
set_option maxHeartbeats 1000000 in
set_option maxRecDepth 100000 in
theorem End_ok (c : Crs) (a : Option Addr) (k : Nat) (w : World) (h : AtnsM anyB w (.slice a c.acts.length k) c.acts) (hn : a = none → c.acts = [] ∧ k = 0) (hc : crsOk c) :
    Calls Tryz.prog 19 #[.agg #[.slice a c.acts.length k, .int .i64 c.flags, .bool c.asked, .int .i64 c.fault]] w (EndR w (endP c)) := by
  obtain ⟨W0, hW0⟩ : ∃ W0, W0 = w.alloc (.cells #[.slice a c.acts.length k, .int .i64 c.flags, .bool c.asked, .int .i64 c.fault] 64) := ⟨_, rfl⟩
  have HWE := hid hW0
  have HB0 := hid (show Below w.heap.size w W0 by rw [hW0]; exact (Below.refl _ _).alloc (Nat.le_refl _) _)
  have HC0 := hid (show W0.heap[w.heap.size]? = some (.cells #[.slice a c.acts.length k, .int .i64 c.flags, .bool c.asked, .int .i64 c.fault] 64) by rw [hW0]; exact tl_at _ rfl)
  have HMB := hid (show Calls Tryz.prog 36 #[.agg #[.slice a c.acts.length k, .int .i64 c.flags, .bool c.asked, .int .i64 c.fault]] W0 fun e w' => e = .returned (.bool true) ∧ Below W0.heap.size W0 w' by
    have := mayBe_any c a k W0
    rw [show (decide (c.acts.length ≤ 6) && (decide (0 ≤ c.flags) && decide (c.flags ≤ 31))) = true by simp [hc.1, hc.2.1, hc.2.2]] at this
    exact this)
  have HA := hid h
  have HN := hid hn
  have hl6 := hc.1
  obtain ⟨l, hl⟩ : ∃ l, l = endP c := ⟨_, rfl⟩
  rw [← hl]
  unfold endP at hl
  have HL := hid hl
  clear h hn hc hW0 hl
  go_enter Tryz.func19, Tryz.ntmps19
  go_wp2_with fail
  rw [← HWE.out]
  refine HMB.out.mono ?_
  rintro e w1 ⟨rfl, hb1⟩
  simp only
  have HB1 := hid (HB0.out.trans (hb1.mono HB0.out.size))
  have hC1 := tl_low hb1 HC0.out
  have d0 := tl_cell (j := 0) hC1 rfl
  have d1 := tl_cell (j := 1) hC1 rfl
  have d2 := tl_cell (j := 2) hC1 rfl
  have d3 := tl_cell (j := 3) hC1 rfl
  have HA1 := hid (AtnsM.next HA.out HB1.out)
  clear hb1 hC1 HWE HMB
  by_cases hf : c.fault = 0
  · have hfb : (c.fault == 0) = true := by simpa using hf
    rw [if_neg (by simpa using hf)] at HL
    have HFZ := hid hf
    clear hf
    cases hq : c.asked with
    | false =>
      rw [if_pos hq] at HL
      rw [hq] at d2
      clear hq
      have HE := hid (show EndR w l (.returned (.tuple #[.slice (some ⟨w1.heap.size, 0, none⟩) 1 1, .int .i64 0])) (w1.alloc (.cells #[.int .i64 3, .string ⟨#[]⟩, .int .i64 c.flags] 94)) by
        rw [HL.out]
        exact ⟨some ⟨w1.heap.size, 0, none⟩, 1, rfl, rowM_one (t := 94) (fr := (0, 0)) (cs := [.int .i64 3, .string ⟨#[]⟩, .int .i64 c.flags]) (tl_at _ rfl) rfl trivial rfl, HB1.out.alloc HB1.out.size _⟩)
      go_wp2
      go_ret2
      exact HE.out
    | true =>
      rw [if_neg (by rw [hq]; simp)] at HL
      rw [hq] at d2
      clear hq
      have HCL := hid (clone_any c.acts a k w1 HA1.out hl6 HN.out)
      go_wp2_with fail
      refine HCL.out.mono ?_
      rintro e w2 ⟨a2, k2, rfl, hO2, hb2⟩
      simp only
      have HE := hid (show EndR w l (.returned (.tuple #[.slice a2 c.acts.length k2, .int .i64 0])) w2 by
        rw [HL.out]
        exact ⟨a2, k2, rfl, RowM.imp (OwnRow.rowM firm_atn hO2 (by unfold maxLen; omega)) (fun _ _ => trivial) (Keeps.refl _ _) (fun _ _ h => h), HB1.out.trans (hb2.mono HB1.out.size)⟩)
      clear hO2 hb2
      go_wp2
      go_ret2
      exact HE.out
  · have hfb : (c.fault == 0) = false := by simpa using hf
    rw [if_pos hf] at HL
    clear hf
    have HE := hid (show EndR w l (.returned (.tuple #[.slice (some ⟨w1.heap.size, 0, none⟩) 1 1, .int .i64 0])) (w1.alloc (.cells #[.int .i64 3, .string ⟨#[]⟩, .int .i64 0] 94)) by
      rw [HL.out]
      exact ⟨some ⟨w1.heap.size, 0, none⟩, 1, rfl, rowM_one (t := 94) (fr := (0, 0)) (cs := [.int .i64 3, .string ⟨#[]⟩, .int .i64 0]) (tl_at _ rfl) rfl trivial rfl, HB1.out.alloc HB1.out.size _⟩)
    go_wp2
    go_ret2
    exact HE.out
end Go.Proofs.YtmnlaijggoojkaaGreatDoor
