/-
  What the laws' maker of tests does, where it compares fields: the walks; the rows of names and keys are its own.
-/
import Derived.Test.YtkciflocpelhiaaGreatDoorMkTest
namespace Go.Proofs.YtkciflocpelhiaaGreatDoor
open Go.RowKit Go.Proofs

/-- A row of texts that was made from a block on. -/
def OwnTx (w : World) (B g c : Nat) (l : List (List UInt8)) : Prop := w.ownsRow B 9 1 (.slice (some ⟨g, 0, none⟩) l.length c) l.length (l.map fun s => .string (S s))
theorem OwnTx.one {w : World} {B g : Nat} {s : List UInt8} (h : w.heap[g]? = some (.cells #[.string (S s)] 9)) (hB : B ≤ g) : OwnTx w B g 1 [s] :=
  ⟨by rfl, .inr ⟨g, 1, _, rfl, hB, h, by simp, by unfold maxLen; omega, by rfl, by rfl⟩⟩
theorem own_lower {w : World} {B B' e k n : Nat} {v : Value} {xs : List Value} (h : w.ownsRow B e k v n xs) (hB : B' ≤ B) : w.ownsRow B' e k v n xs := ⟨h.1, h.2.imp id fun ⟨g, cap, cur, h1, h2, h3⟩ => ⟨g, cap, cur, h1, Nat.le_trans hB h2, h3⟩⟩
/-- What the maker hands back of a test that compares fields. -/
def TestQ (kd : Int) (w : World) (e : Ending) (w' : World) : Prop := ∃ (ma p : Int) (nm : List UInt8) (keys : List (List UInt8)) (gn gk ck : Nat), e = .returned (.agg #[.int .i64 kd, .int .i64 ma, .int .i64 p, .slice (some ⟨gn, 0, none⟩) 1 1, .slice (some ⟨gk, 0, none⟩) keys.length ck, .bool false, .int .i64 0, .slice none 0 0]) ∧
  OwnTx w' w.heap.size gn 1 [nm] ∧ OwnTx w' w.heap.size gk ck keys ∧ gn ≠ gk ∧ nm.length ≤ 100 ∧ (∀ s ∈ keys, s.length ≤ 100) ∧ 1 ≤ keys.length ∧ keys.length ≤ 2 ∧ (1 ≤ ma ∧ ma ≤ 3) ∧ ((kd = 6 ∧ p = 0) ∨ (kd = 7 ∧ 1 ≤ p ∧ p ≤ 3)) ∧ Below w.heap.size w w'
theorem own_keepB {w w' : World} {B n k : Nat} {e : TypeId} {v : Value} {xs : List Value} (h : w.ownsRow B e k v n xs) (hk : ∀ g, v.ownBlock = some g → w'.heap[g]? = w.heap[g]?) : w'.ownsRow B e k v n xs := by
  refine ⟨h.1, h.2.imp id ?_⟩
  rintro ⟨g, cap, cur, rfl, hB, hg, hr⟩
  exact ⟨g, cap, cur, rfl, hB, (hk g rfl).trans hg, hr⟩
theorem TestQ.two {w w3 : World} {e : Ending} {g cap b : Nat} (k ma p : Int) (nm k1 k2 : List UInt8) (he : e = .returned (.agg #[.int .i64 k, .int .i64 ma, .int .i64 p, .slice (some ⟨b, 0, none⟩) 1 1, .slice (some ⟨g, 0, none⟩) 2 cap, .bool false, .int .i64 0, .slice none 0 0]))
    (hn : w3.heap[b]? = some (.cells #[.string (S nm)] 9)) (hb : w.heap.size + 1 + 1 < b ∧ b < w.heap.size + 5) (hk : w3.ownsRow (w.heap.size + 5) 9 1 (.slice (some ⟨g, 0, none⟩) 2 cap) 2 [.string (S k1), .string (S k2)]) (hl : nm.length ≤ 100) (l1 : k1.length ≤ 100) (l2 : k2.length ≤ 100) (hma : 1 ≤ ma ∧ ma ≤ 3) (hp : (k = 6 ∧ p = 0) ∨ (k = 7 ∧ 1 ≤ p ∧ p ≤ 3)) (hB : Below w.heap.size w w3) :
    TestQ k w e (setAll (w3.setCell ⟨w.heap.size + 1 + 1, 4, none⟩ (.slice (some ⟨g, 0, none⟩) 2 cap)) (w.heap.size + 1) 0 [.int .i64 k, .int .i64 ma, .int .i64 p, .slice (some ⟨b, 0, none⟩) 1 1, .slice (some ⟨g, 0, none⟩) 2 cap, .bool false, .int .i64 0, .slice none 0 0]) := by
  have hkp : Keeps (fun b => w.heap.size + 1 + 1 < b) w3 (setAll (w3.setCell ⟨w.heap.size + 1 + 1, 4, none⟩ (.slice (some ⟨g, 0, none⟩) 2 cap)) (w.heap.size + 1) 0 [.int .i64 k, .int .i64 ma, .int .i64 p, .slice (some ⟨b, 0, none⟩) 1 1, .slice (some ⟨g, 0, none⟩) 2 cap, .bool false, .int .i64 0, .slice none 0 0]) :=
    setAll_keeps (fun k hk => by have : w.heap.size + 1 + 1 < k := hk; omega) _ 0 _ _ (Keeps.set w3 _ fun k hk => by have : w.heap.size + 1 + 1 < k := hk; show k ≠ w.heap.size + 1 + 1; omega)
  obtain ⟨hg1, hg2⟩ := World.ownsRow.lt hk g rfl
  refine ⟨ma, p, nm, [k1, k2], b, g, cap, he, OwnTx.one ((hkp.block b (Array.getElem?_eq_some_iff.1 hn).1 hb.1).trans hn) (by omega), own_lower (own_keepB hk fun q hq => ?_) (by omega), by omega, hl, fun s hs => ?_, by simp, by simp, hma, hp, setAll_below (Nat.le_succ _) _ 0 _ _ (hB.setCell (by simp; omega) _)⟩
  · obtain rfl : g = q := Option.some.inj hq
    exact hkp.block g hg2 (by show w.heap.size + 1 + 1 < g; omega)
  · simp at hs
    rcases hs with rfl | rfl
    · exact l1
    · exact l2
set_option maxHeartbeats 8000000 in
set_option maxRecDepth 100000 in
theorem test_hdrq (d n : Nat) (x : Stk) (cs : List Value) (w : World) (h : StkM (n + 1) w x cs) (hd : ¬ d < 3) (hp : pickN x.kind 10 = 5) :
    Calls Tryz.prog 6 #[.agg cs.toArray, .int .i64 d] w (TestQ 6 w) := by
  obtain ⟨ai, ci, rfl, wk, wa, wb, ls, lt, hic, hcm, hR⟩ := h
  obtain ⟨i0, hi, hz0, hz1, hz2⟩ := info_parts infoTxt
  clear hR
  go_enter Tryz.func6, Tryz.ntmps6
  go_wp2_with fail
  refine (picked_any x.kind 10 _ wk (by omega) (by omega)).mono ?_
  rintro e w1 ⟨rfl, rfl⟩
  rw [hp]
  go_wp2_with fail
  refine (picked_any x.a 3 _ wa (by omega) (by omega)).mono ?_
  rintro e w1 ⟨rfl, rfl⟩
  have hpa := pickN_lt x.a 3 (by omega)
  generalize pickN x.a 3 = pa at *
  go_wp2_with fail
  refine (picked_any x.b 4 _ wb (by omega) (by omega)).mono ?_
  rintro e w1 ⟨rfl, rfl⟩
  have hpb := pickN_lt x.b 4 (by omega)
  generalize pickN x.b 4 = pb at *
  obtain ⟨nm, hnm, hnl⟩ := hdr_at hpb
  have hb4 : (pb : Int) < 4 := by omega
  have hb0 : (0 : Int) ≤ (pb : Int) := by omega
  go_wp2_with fail
  refine (short_any x.s _ ls).mono ?_
  rintro e w1 ⟨rfl, rfl⟩
  go_wp2_with fail
  refine (picked_any x.a 2 _ wa (by omega) (by omega)).mono ?_
  rintro e w1 ⟨rfl, rfl⟩
  have hp2 := pickN_lt x.a 2 (by omega)
  generalize pickN x.a 2 = p2 at *
  match p2, hp2 with
  | 0, _ =>
    go_wp2
    refine bodyPost_ret (v := .agg #[.int .i64 6, .int .i64 (1 + (pa : Int)), .int .i64 0, .slice (some ⟨w.heap.size + 1 + 1 + 1 + 1, 0, none⟩) 1 1, .slice (some ⟨w.heap.size + 1 + 1 + 1 + 1 + 1, 0, none⟩) 1 1, .bool false, .int .i64 0, .slice none 0 0]) (by simp [results, Tryz.results6, go_sem]) rfl ?_
    refine ⟨1 + (pa : Int), 0, nm, [x.s.take 12], _, _, 1, rfl, OwnTx.one (heap_old _ (heap_at _ (by simp))) (by omega), OwnTx.one (heap_at _ (by simp)) (by omega), by omega, hnl, fun s hs => by simp at hs; rw [hs, List.length_take]; omega, by simp, by simp, ⟨by omega, by omega⟩, .inl ⟨rfl, rfl⟩, ?_⟩
    exact ((((((Below.refl _ _).alloc (Nat.le_refl _) _).alloc (by simp) _).alloc (by simp; omega) _).alloc (by simp; omega) _).alloc (by simp; omega) _).alloc (by simp; omega) _
  | 1, _ =>
    obtain ⟨W, hW⟩ : ∃ W, W = (((((w.alloc (.cells #[.int .i64 x.kind, .int .i64 x.a, .int .i64 x.b, .string (S x.s), .string (S x.t), .slice ai x.ins.length ci] 29)).alloc (.cells #[.int .i64 0, .int .i64 0, .int .i64 0, .slice none 0 0, .slice none 0 0, .bool false, .int .i64 0, .slice none 0 0] 40)).alloc (.cells #[.int .i64 6, .int .i64 (1 + (pa : Int)), .int .i64 0, .slice (some ⟨w.heap.size + 1 + 1 + 1 + 1, 0, none⟩) 1 1, .slice (some ⟨w.heap.size + 1 + 1 + 1 + 1 + 1, 0, none⟩) 1 1, .bool false, .int .i64 0, .slice none 0 0] 40)).alloc (.cells #[.string ⟨#[115, 117, 98, 106, 101, 99, 116]⟩, .string ⟨#[116, 111]⟩, .string ⟨#[102, 114, 111, 109]⟩, .string ⟨#[120]⟩] 9)).alloc (.cells #[.string (S nm)] 9)).alloc (.cells #[.string (S (x.s.take 12))] 9) := ⟨_, rfl⟩
    have HWE := hid hW
    have hx := box6 (t := 29) (show W.heap[w.heap.size]? = _ by rw [hW]; exact heap_old _ (heap_old _ (heap_old _ (heap_old _ (heap_old _ (heap_at _ rfl))))))
    have hr := (show W.heap[w.heap.size + 1]? = some (.cells #[.int .i64 0, .int .i64 0, .int .i64 0, .slice none 0 0, .slice none 0 0, .bool false, .int .i64 0, .slice none 0 0] 40) by rw [hW]; exact heap_old _ (heap_old _ (heap_old _ (heap_old _ (heap_at _ (by simp))))))
    have ht := (show W.heap[w.heap.size + 1 + 1]? = some (.cells #[.int .i64 6, .int .i64 (1 + (pa : Int)), .int .i64 0, .slice (some ⟨w.heap.size + 1 + 1 + 1 + 1, 0, none⟩) 1 1, .slice (some ⟨w.heap.size + 1 + 1 + 1 + 1 + 1, 0, none⟩) 1 1, .bool false, .int .i64 0, .slice none 0 0] 40) by rw [hW]; exact heap_old _ (heap_old _ (heap_old _ (heap_at _ (by simp)))))
    have hn := (show W.heap[w.heap.size + 1 + 1 + 1 + 1]? = some (.cells #[.string (S nm)] 9) by rw [hW]; exact heap_old _ (heap_at _ (by simp)))
    have hk := (show W.heap[w.heap.size + 1 + 1 + 1 + 1 + 1]? = some (.cells #[.string (S (x.s.take 12))] 9) by rw [hW]; exact heap_at _ (by simp))
    have HSZ := hid (show W.heap.size = w.heap.size + 6 by rw [hW]; simp)
    have lt2 : w.heap.size + 1 + 1 < W.heap.size := by rw [HSZ.out]; omega
    have lt0 : w.heap.size < W.heap.size := by omega
    have HB := hid (show Below w.heap.size w W by rw [hW]; exact ((((((Below.refl _ _).alloc (Nat.le_refl _) _).alloc (by simp) _).alloc (by simp; omega) _).alloc (by simp; omega) _).alloc (by simp; omega) _).alloc (by simp; omega) _)
    have HO := hid (show World.ownsRow W.drew (w.heap.size + 5) 9 1 (.slice (some ⟨w.heap.size + 1 + 1 + 1 + 1 + 1, 0, none⟩) 1 1) 1 [.string (S (x.s.take 12))] from ⟨by rfl, .inr ⟨_, 1, _, rfl, by omega, hk, by omega, by unfold maxLen; omega, by rfl, by rfl⟩⟩)
    have x4 := hx.2.2.2.2.1
    have HR := hid hr
    have HT := hid ht
    have HNM := hid hn
    obtain ⟨t0, t1, t2, t3, t4, t5, t6, t7, g0, g1, g2, g3, g4, g5, g6, g7⟩ := box8 ht
    clear hW hx hr ht hn hk
    go_wp2_with fail
    rw [← HWE.out]
    go_region_law
      (first
        | (refine step_append_lies _ (by rfl) _ _ _ (by rfl) (w.heap.size + 5) 9 i0 _ 1 16 Tryz.underlying37 hi hz0 hz1 hz2 rfl (by omega) (.slice (some ⟨w.heap.size + 1 + 1 + 1 + 1 + 1, 0, none⟩) 1 1) 1 [.string (S (x.s.take 12))] (by rfl) (World.ownsRow.alloc HO.out _) ⟨_, 0, none⟩ 1 1 [.string (S (x.t.take 12))] (by rfl) (by rfl) (cell_one_fresh _ _ _) (by simp [Value.oneCell']) (by omega) (by unfold maxLen; omega) (by omega) (by have := HSZ.out; simp; omega) _ rfl ?_
           intro g cap w3 hown3 hgrow hat hlt3
           have ht3 := grown_heap hgrow (heap_old _ HT.out) (own_ne (by omega))
           have hr3 := grown_heap hgrow (heap_old _ HR.out) (own_ne (by omega))
           have hn3 := hid (grown_heap hgrow (heap_old _ HNM.out) (own_ne (by omega)))
           have hB3 := hid (grown_below (HB.out.alloc (by have := HSZ.out; omega) _) hgrow (by have := HSZ.out; show w.heap.size ≤ (W.heap.push _).size; rw [Array.size_push]; omega) (by omega))
           obtain ⟨u0, u1, u2, u3, u4, u5, u6, u7, v0, v1, v2, v3, v4, v5, v6, v7⟩ := box8 ht3
           obtain ⟨p0, p1, p2, p3, p4, p5, p6, p7, o0, o1, o2, o3, o4, o5, o6, o7⟩ := box8 hr3
           clear ht3 hr3 hgrow hat)
        | (go_simp
           go_at_call 8
           refine (short_any x.t _ lt).mono ?_
           rintro e wS ⟨rfl, rfl⟩))
    all_goals
      have HTX := hid hown3
      clear hown3
      go_wp2
      refine bodyPost_ret (v := .agg #[.int .i64 6, .int .i64 (1 + (pa : Int)), .int .i64 0, .slice (some ⟨w.heap.size + 1 + 1 + 1 + 1, 0, none⟩) 1 1, .slice (some ⟨g, 0, none⟩) 2 cap, .bool false, .int .i64 0, .slice none 0 0]) (by simp [results, Tryz.results6, go_sem, *]) rfl ?_
      exact TestQ.two 6 _ _ nm _ _ rfl hn3.out (by omega) HTX.out hnl (by rw [List.length_take]; omega) (by rw [List.length_take]; omega) (by omega) (.inl ⟨rfl, rfl⟩) hB3.out
set_option maxHeartbeats 8000000 in
set_option maxRecDepth 100000 in
theorem test_adrq (d n : Nat) (x : Stk) (cs : List Value) (w : World) (h : StkM (n + 1) w x cs) (hd : ¬ d < 3) (hp : pickN x.kind 10 = 6) :
    Calls Tryz.prog 6 #[.agg cs.toArray, .int .i64 d] w (TestQ 7 w) := by
  obtain ⟨ai, ci, rfl, wk, wa, wb, ls, lt, hic, hcm, hR⟩ := h
  obtain ⟨i0, hi, hz0, hz1, hz2⟩ := info_parts infoTxt
  clear hR
  go_enter Tryz.func6, Tryz.ntmps6
  go_wp2_with fail
  refine (picked_any x.kind 10 _ wk (by omega) (by omega)).mono ?_
  rintro e w1 ⟨rfl, rfl⟩
  rw [hp]
  go_wp2_with fail
  refine (picked_any x.a 3 _ wa (by omega) (by omega)).mono ?_
  rintro e w1 ⟨rfl, rfl⟩
  have hpa := pickN_lt x.a 3 (by omega)
  generalize pickN x.a 3 = pa at *
  go_wp2_with fail
  refine (picked_any x.b 4 _ wb (by omega) (by omega)).mono ?_
  rintro e w1 ⟨rfl, rfl⟩
  have hpb := pickN_lt x.b 4 (by omega)
  generalize pickN x.b 4 = pb at *
  obtain ⟨nm, hnm, hnl⟩ := hdr_at hpb
  have hb4 : (pb : Int) < 4 := by omega
  have hb0 : (0 : Int) ≤ (pb : Int) := by omega
  go_wp2_with fail
  refine (picked_any x.b 3 _ wb (by omega) (by omega)).mono ?_
  rintro e w1 ⟨rfl, rfl⟩
  have hpp := pickN_lt x.b 3 (by omega)
  generalize pickN x.b 3 = pp at *
  go_wp2_with fail
  refine (short_any x.s _ ls).mono ?_
  rintro e w1 ⟨rfl, rfl⟩
  go_wp2_with fail
  refine (picked_any x.a 2 _ wa (by omega) (by omega)).mono ?_
  rintro e w1 ⟨rfl, rfl⟩
  have hp2 := pickN_lt x.a 2 (by omega)
  generalize pickN x.a 2 = p2 at *
  match p2, hp2 with
  | 0, _ =>
    go_wp2
    refine bodyPost_ret (v := .agg #[.int .i64 7, .int .i64 (1 + (pa : Int)), .int .i64 (1 + (pp : Int)), .slice (some ⟨w.heap.size + 1 + 1 + 1 + 1, 0, none⟩) 1 1, .slice (some ⟨w.heap.size + 1 + 1 + 1 + 1 + 1, 0, none⟩) 1 1, .bool false, .int .i64 0, .slice none 0 0]) (by simp [results, Tryz.results6, go_sem]) rfl ?_
    refine ⟨1 + (pa : Int), 1 + (pp : Int), nm, [x.s.take 12], _, _, 1, rfl, OwnTx.one (heap_old _ (heap_at _ (by simp))) (by omega), OwnTx.one (heap_at _ (by simp)) (by omega), by omega, hnl, fun s hs => by simp at hs; rw [hs, List.length_take]; omega, by simp, by simp, ⟨by omega, by omega⟩, .inr ⟨rfl, by omega, by omega⟩, ?_⟩
    exact ((((((Below.refl _ _).alloc (Nat.le_refl _) _).alloc (by simp) _).alloc (by simp; omega) _).alloc (by simp; omega) _).alloc (by simp; omega) _).alloc (by simp; omega) _
  | 1, _ =>
    obtain ⟨W, hW⟩ : ∃ W, W = (((((w.alloc (.cells #[.int .i64 x.kind, .int .i64 x.a, .int .i64 x.b, .string (S x.s), .string (S x.t), .slice ai x.ins.length ci] 29)).alloc (.cells #[.int .i64 0, .int .i64 0, .int .i64 0, .slice none 0 0, .slice none 0 0, .bool false, .int .i64 0, .slice none 0 0] 40)).alloc (.cells #[.int .i64 7, .int .i64 (1 + (pa : Int)), .int .i64 (1 + (pp : Int)), .slice (some ⟨w.heap.size + 1 + 1 + 1 + 1, 0, none⟩) 1 1, .slice (some ⟨w.heap.size + 1 + 1 + 1 + 1 + 1, 0, none⟩) 1 1, .bool false, .int .i64 0, .slice none 0 0] 40)).alloc (.cells #[.string ⟨#[115, 117, 98, 106, 101, 99, 116]⟩, .string ⟨#[116, 111]⟩, .string ⟨#[102, 114, 111, 109]⟩, .string ⟨#[120]⟩] 9)).alloc (.cells #[.string (S nm)] 9)).alloc (.cells #[.string (S (x.s.take 12))] 9) := ⟨_, rfl⟩
    have HWE := hid hW
    have hx := box6 (t := 29) (show W.heap[w.heap.size]? = _ by rw [hW]; exact heap_old _ (heap_old _ (heap_old _ (heap_old _ (heap_old _ (heap_at _ rfl))))))
    have hr := (show W.heap[w.heap.size + 1]? = some (.cells #[.int .i64 0, .int .i64 0, .int .i64 0, .slice none 0 0, .slice none 0 0, .bool false, .int .i64 0, .slice none 0 0] 40) by rw [hW]; exact heap_old _ (heap_old _ (heap_old _ (heap_old _ (heap_at _ (by simp))))))
    have ht := (show W.heap[w.heap.size + 1 + 1]? = some (.cells #[.int .i64 7, .int .i64 (1 + (pa : Int)), .int .i64 (1 + (pp : Int)), .slice (some ⟨w.heap.size + 1 + 1 + 1 + 1, 0, none⟩) 1 1, .slice (some ⟨w.heap.size + 1 + 1 + 1 + 1 + 1, 0, none⟩) 1 1, .bool false, .int .i64 0, .slice none 0 0] 40) by rw [hW]; exact heap_old _ (heap_old _ (heap_old _ (heap_at _ (by simp)))))
    have hn := (show W.heap[w.heap.size + 1 + 1 + 1 + 1]? = some (.cells #[.string (S nm)] 9) by rw [hW]; exact heap_old _ (heap_at _ (by simp)))
    have hk := (show W.heap[w.heap.size + 1 + 1 + 1 + 1 + 1]? = some (.cells #[.string (S (x.s.take 12))] 9) by rw [hW]; exact heap_at _ (by simp))
    have HSZ := hid (show W.heap.size = w.heap.size + 6 by rw [hW]; simp)
    have lt2 : w.heap.size + 1 + 1 < W.heap.size := by rw [HSZ.out]; omega
    have lt0 : w.heap.size < W.heap.size := by omega
    have HB := hid (show Below w.heap.size w W by rw [hW]; exact ((((((Below.refl _ _).alloc (Nat.le_refl _) _).alloc (by simp) _).alloc (by simp; omega) _).alloc (by simp; omega) _).alloc (by simp; omega) _).alloc (by simp; omega) _)
    have HO := hid (show World.ownsRow W.drew (w.heap.size + 5) 9 1 (.slice (some ⟨w.heap.size + 1 + 1 + 1 + 1 + 1, 0, none⟩) 1 1) 1 [.string (S (x.s.take 12))] from ⟨by rfl, .inr ⟨_, 1, _, rfl, by omega, hk, by omega, by unfold maxLen; omega, by rfl, by rfl⟩⟩)
    have x4 := hx.2.2.2.2.1
    have HR := hid hr
    have HT := hid ht
    have HNM := hid hn
    obtain ⟨t0, t1, t2, t3, t4, t5, t6, t7, g0, g1, g2, g3, g4, g5, g6, g7⟩ := box8 ht
    clear hW hx hr ht hn hk
    go_wp2_with fail
    rw [← HWE.out]
    go_region_law
      (first
        | (refine step_append_lies _ (by rfl) _ _ _ (by rfl) (w.heap.size + 5) 9 i0 _ 1 16 Tryz.underlying37 hi hz0 hz1 hz2 rfl (by omega) (.slice (some ⟨w.heap.size + 1 + 1 + 1 + 1 + 1, 0, none⟩) 1 1) 1 [.string (S (x.s.take 12))] (by rfl) (World.ownsRow.alloc HO.out _) ⟨_, 0, none⟩ 1 1 [.string (S (x.t.take 12))] (by rfl) (by rfl) (cell_one_fresh _ _ _) (by simp [Value.oneCell']) (by omega) (by unfold maxLen; omega) (by omega) (by have := HSZ.out; simp; omega) _ rfl ?_
           intro g cap w3 hown3 hgrow hat hlt3
           have ht3 := grown_heap hgrow (heap_old _ HT.out) (own_ne (by omega))
           have hr3 := grown_heap hgrow (heap_old _ HR.out) (own_ne (by omega))
           have hn3 := hid (grown_heap hgrow (heap_old _ HNM.out) (own_ne (by omega)))
           have hB3 := hid (grown_below (HB.out.alloc (by have := HSZ.out; omega) _) hgrow (by have := HSZ.out; show w.heap.size ≤ (W.heap.push _).size; rw [Array.size_push]; omega) (by omega))
           obtain ⟨u0, u1, u2, u3, u4, u5, u6, u7, v0, v1, v2, v3, v4, v5, v6, v7⟩ := box8 ht3
           obtain ⟨p0, p1, p2, p3, p4, p5, p6, p7, o0, o1, o2, o3, o4, o5, o6, o7⟩ := box8 hr3
           clear ht3 hr3 hgrow hat)
        | (go_simp
           go_at_call 8
           refine (short_any x.t _ lt).mono ?_
           rintro e wS ⟨rfl, rfl⟩))
    all_goals
      have HTX := hid hown3
      clear hown3
      go_wp2
      refine bodyPost_ret (v := .agg #[.int .i64 7, .int .i64 (1 + (pa : Int)), .int .i64 (1 + (pp : Int)), .slice (some ⟨w.heap.size + 1 + 1 + 1 + 1, 0, none⟩) 1 1, .slice (some ⟨g, 0, none⟩) 2 cap, .bool false, .int .i64 0, .slice none 0 0]) (by simp [results, Tryz.results6, go_sem, *]) rfl ?_
      exact TestQ.two 7 _ _ nm _ _ rfl hn3.out (by omega) HTX.out hnl (by rw [List.length_take]; omega) (by rw [List.length_take]; omega) (by omega) (.inr ⟨rfl, by omega, by omega⟩) hB3.out
end Go.Proofs.YtkciflocpelhiaaGreatDoor
