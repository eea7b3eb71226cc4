/-
  A course's end is what the document says: the walks of the law and of its copy of a course.
-/
import Derived.Test.YthmjkhjpekncmaaJudEnd
namespace Go.Proofs.Ythmjkhjpekncmaa
open Go.RowKit Go.Proofs

/-- A course that was copied. -/
def CoP (w : World) (c : Crs) (e : Ending) (w' : World) : Prop := ∃ a k, e = .returned (.agg #[.slice a c.acts.length k, .int .i64 c.flags, .bool c.asked, .int .i64 c.fault]) ∧ AtnsM anyB w' (.slice a c.acts.length k) c.acts ∧ Below w.heap.size w w'
theorem low_set {B : Nat} {w0 w : World} (h : Below B w0 w) {p : Addr} (v : Value) (hp : B ≤ p.block) : Below B w0 (w.setCell p v) :=
  h.trans ⟨rfl, rfl, rfl, by simp [World.setCell], fun k hk => Below.heap_setCell _ _ _ _ (by omega)⟩
theorem row_set {w : World} {v u : Value} {l : List Atn} {p : Addr} {B : Nat} (h : w.ownsRow B 32 3 v l.length (l.map atnC).flatten) (hp : p.block < B) : (w.setCell p u).ownsRow B 32 3 v l.length (l.map atnC).flatten :=
  owns_keep h fun g hg => Below.heap_setCell _ _ _ _ (by have := (World.ownsRow.lt h g hg).1; omega)
theorem heap_alloc_old {w : World} {o x : Obj} {k : Nat} (h : w.heap[k]? = some x) : (w.alloc o).heap[k]? = some x := by
  have hk : k < w.heap.size := (Array.getElem?_eq_some_iff.1 h).1
  show (w.heap.push o)[k]? = _
  rw [Array.getElem?_push_lt hk, ← Array.getElem?_eq_getElem hk, h]
theorem box4f {w : World} {p : Nat} {v0 v1 v2 v3 : Value} {t : TypeId} (h : w.heap[p]? = some (.cells #[v0, v1, v2, v3] t)) : w.frozen? ⟨p, 0, none⟩ = false ∧ w.frozen? ⟨p, 1, none⟩ = false ∧ w.frozen? ⟨p, 2, none⟩ = false ∧ w.frozen? ⟨p, 3, none⟩ = false := by
  refine ⟨?_, ?_, ?_, ?_⟩ <;> simp [World.frozen?, h]
set_option maxHeartbeats 1000000 in
set_option maxRecDepth 100000 in
theorem courses_any (c : Crs) (a : Option Addr) (k : Nat) (w : World) (h : AtnsM anyB w (.slice a c.acts.length k) c.acts) (hl : c.acts.length ≤ 4398046511104) :
    Calls Try.prog 5 #[.agg #[.slice a c.acts.length k, .int .i64 c.flags, .bool c.asked, .int .i64 c.fault]] w (CoP w c) := by
  obtain ⟨i0, hi, hz0, hz1, hz2⟩ := info_parts infoAtn
  obtain ⟨acts, flags, asked, fault⟩ := c
  simp only at h hl ⊢
  by_cases h0 : acts = []
  · subst h0
    clear h hl
    cases a
    all_goals
      go_enter Try.func5, Try.ntmps5
      go_wp2
      refine bodyPost_ret (v := .agg #[.slice none 0 0, .int .i64 flags, .bool asked, .int .i64 fault]) (by simp [results, Try.results5, go_sem, *]) rfl ?_
      refine ⟨none, 0, rfl, rowM_nil _ _ _ _ _ _, ?_⟩
      repeat' first | refine low_set ?_ _ (by simp) | refine Below.alloc ?_ (by simp) _ | exact Below.refl _ _
  · have hpos : 0 < acts.length := List.length_pos_iff.2 h0
    obtain ⟨W1, hW1⟩ : ∃ W1, W1 = (w.alloc (.cells #[.slice a acts.length k, .int .i64 flags, .bool asked, .int .i64 fault] 25)).alloc (.cells #[.slice none 0 0, .int .i64 0, .bool false, .int .i64 0] 25) := ⟨_, rfl⟩
    have HWE := hid hW1
    have hB1 : Below w.heap.size w W1 := by rw [hW1]; exact ((Below.refl _ _).alloc (Nat.le_refl _) _).alloc (by simp) _
    have hs1 : W1.heap.size = w.heap.size + 2 := by rw [hW1]; simp
    have hX0 : W1.heap[w.heap.size]? = some (.cells #[.slice a acts.length k, .int .i64 flags, .bool asked, .int .i64 fault] 25) := by rw [hW1]; exact heap_alloc_old (heap_alloc_new w _)
    have hX1 : W1.heap[w.heap.size + 1]? = some (.cells #[.slice none 0 0, .int .i64 0, .bool false, .int .i64 0] 25) := by rw [hW1]; have := heap_alloc_new (w.alloc (.cells #[.slice a acts.length k, .int .i64 flags, .bool asked, .int .i64 fault] 25)) (.cells #[.slice none 0 0, .int .i64 0, .bool false, .int .i64 0] 25); simpa using this
    obtain ⟨ad, rfl⟩ : ∃ ad, a = some ad := by
      cases acts with
      | nil => exact absurd rfl h0
      | cons x r => obtain ⟨b, o, e, _⟩ := atn_at h (i := 0) (x := x) rfl; exact ⟨_, e⟩
    have HC := hid (atn_cells (AtnsM.next h hB1))
    have H1 := hid (atn_one acts)
    have HL := hid (atn_len acts)
    have HB1 := hid hB1
    have HX0 := hid hX0
    have HX1 := hid hX1
    have HS1 := hid hs1
    clear h hW1 hB1 hX0 hX1 hs1 h0
    go_enter Try.func5, Try.ntmps5
    go_upto_region 1 with fail
    rw [← HWE.out]
    obtain ⟨x0, x1, x2, x3⟩ := box4 HX0.out
    go_wp2_with (first | (at_builtin; refine wpList_append_lies _ rfl _ _ 22 rfl (w.heap.size + 2) 32 i0 _ 3 32 Try.underlying22 hi hz0 hz1 hz2 rfl (by decide) (.slice none 0 0) 0 [] rfl (World.ownsRow_nil _ _ _ _) ad acts.length k ((acts.map atnC).flatten) rfl HL.out HC.out H1.out hpos ?k3 ?k4 ?k5 _ rfl ?_) | fail)
    case k3 => unfold maxLen; omega
    case k4 => omega
    case k5 => rw [HS1.out]; exact Nat.le_refl _
    intro g cap w3 hown hgrow hat hlt
    have HG := hid (show w3.ownsRow (w.heap.size + 2) 32 3 (.slice (some ⟨g, 0, none⟩) acts.length cap) acts.length (acts.map atnC).flatten by simpa using hown)
    have HB3 := hid (show Below w.heap.size w w3 from HB1.out.grown hgrow HB1.out.size (fun j hj => by cases hj))
    have hY0 := (hgrow.block w.heap.size (by rw [HS1.out]; omega) (by intro e; cases e)).trans HX0.out
    have hY1 := (hgrow.block (w.heap.size + 1) (by rw [HS1.out]; omega) (by intro e; cases e)).trans HX1.out
    clear hown hgrow hat x0 x1 x2 x3
    have HY0 := hid hY0
    have HY1 := hid hY1
    obtain ⟨y0, y1, y2, y3⟩ := box4 hY0
    obtain ⟨z0, z1, z2, z3⟩ := box4 hY1
    obtain ⟨f0, f1, f2, f3⟩ := box4f hY0
    obtain ⟨g0, g1, g2, g3⟩ := box4f hY1
    clear hY0 hY1 hlt
    go_wp2
    refine bodyPost_ret (v := .agg #[.slice (some ⟨g, 0, none⟩) acts.length cap, .int .i64 flags, .bool asked, .int .i64 fault]) (by simp [results, Try.results5, go_sem, *]) rfl ?_
    refine ⟨some ⟨g, 0, none⟩, cap, rfl, ?_, ?_⟩
    · show AtnsM anyB _ (.slice (some ⟨g, 0, none⟩) acts.length cap) acts
      refine own_atns (B := w.heap.size + 2) (n := acts.length) ?_ rfl (by unfold maxLen; omega)
      repeat' first | refine row_set ?_ (by simp) | exact HG.out
    · repeat' first | refine low_set ?_ _ (by simp) | exact HB3.out
set_option maxHeartbeats 1000000 in
set_option maxRecDepth 100000 in
theorem judgeEnds_walk (c : Crs) (a : Option Addr) (k : Nat) (w : World) (h : AtnsM anyB w (.slice a c.acts.length k) c.acts) (hl : c.acts.length ≤ 4398046511104) :
    Calls Try.prog 3 #[.agg #[.slice a c.acts.length k, .int .i64 c.flags, .bool c.asked, .int .i64 c.fault]] w fun e w' => e = .returned (.bool true) ∧ Below w.heap.size w w' := by
  obtain ⟨W0, hW0⟩ : ∃ W0, W0 = w.alloc (.cells #[.slice a c.acts.length k, .int .i64 c.flags, .bool c.asked, .int .i64 c.fault] 25) := ⟨_, rfl⟩
  have HWE := hid hW0
  have HB := hid (show Below w.heap.size w W0 by rw [hW0]; exact (Below.refl _ _).alloc (Nat.le_refl _) _)
  have HH := hid (show W0.heap[w.heap.size]? = some (.cells #[.slice a c.acts.length k, .int .i64 c.flags, .bool c.asked, .int .i64 c.fault] 25) by rw [hW0]; exact heap_alloc_new w _)
  have HL := hid (AtnsM.next h HB.out)
  have HC := hid (courses_any c a k W0 HL.out hl)
  clear h hW0 hl
  go_enter Try.func3, Try.ntmps3
  go_upto_region 1 with fail
  rw [← HWE.out]
  obtain ⟨x0, x1, x2, x3⟩ := box4 HH.out
  go_wp2_with fail
  refine HC.out.mono ?_
  rintro e w1 ⟨a1, k1, rfl, hr, hb⟩
  have HE := hid (End_any c a1 k1 w1 hr)
  have HB1 := hid (HB.out.trans (hb.mono HB.out.size))
  have HL1 := hid (AtnsM.next HL.out hb)
  have HH1 := hid ((hb.block _ (Array.getElem?_eq_some_iff.1 HH.out).1).trans HH.out)
  clear hr hb x0 x1 x2 x3
  go_wp2_with fail
  refine HE.out.mono ?_
  rintro e w2 ⟨a2, k2, rfl, hr, hb⟩
  have HR2 := hid hr
  have HB2 := hid (HB1.out.trans (hb.mono HB1.out.size))
  have HL2 := hid (AtnsM.next HL1.out hb)
  obtain ⟨x0, x1, x2, x3⟩ := box4 ((hb.block _ (Array.getElem?_eq_some_iff.1 HH1.out).1).trans HH1.out)
  have HF := hid (Ended_any c a k w2 HL2.out)
  have hle : (enL c).length ≤ 1000 := by
    unfold enL
    by_cases hm : mayC c = true
    · have := mayC_len hm
      rw [if_pos hm]
      unfold endC
      split
      · simp
      · split
        · omega
        · simp
    · rw [if_neg hm]; simp
  obtain ⟨L, hL⟩ : ∃ L, L = enL c := ⟨_, rfl⟩
  obtain ⟨z, hz⟩ : ∃ z, z = enE c := ⟨_, rfl⟩
  unfold EnP at HF
  rw [← hL, ← hz] at HF
  rw [← hL] at HR2 hle
  rw [← hL, ← hz]
  clear hr hb hL hz
  have HLE := hid hle
  clear hle
  go_wp2_with fail
  refine HF.out.mono ?_
  rintro e w3 ⟨a3, k3, rfl, hr, hb⟩
  have HS := hid (sameActs_any a2 a3 k2 k3 L w3 (AtnsM.next HR2.out hb) hr HLE.out)
  have HB3 := hid (HB2.out.trans (hb.mono HB2.out.size))
  clear hr hb x0 x1 x2 x3
  go_wp2_with fail
  refine HS.out.mono ?_
  rintro e w4 ⟨rfl, hb⟩
  have HB4 := hid (HB3.out.trans (hb.mono HB3.out.size))
  clear hb
  go_wp2
  go_ret
  exact ⟨rfl, HB4.out⟩
end Go.Proofs.Ythmjkhjpekncmaa
