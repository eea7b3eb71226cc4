/-
  What postroomkeep's sameTexts, sameTest, sameCommands do with the same: the walks.
-/
import Derived.Test.YtdmiidbncpgfpabDoorScrCmds
import Derived.Deep.RegionHeld3
import Derived.Deep.QuietTactic
import Derived.BigQuiet
namespace Go.Proofs.YtdmiidbncpgfpabDoor
open Go.RowKit Go.Proofs

theorem txt_atS {Q : Nat → Prop} {w : World} {a : Option Addr} {c : Nat} {l : List (List UInt8)} (h : TxtsM Q w (.slice a l.length c) l) {i : Nat} {x : List UInt8} (hx : l[i]? = some x) : ∃ b o, a = some ⟨b, o, none⟩ ∧ b < w.heap.size ∧ w.cell? ⟨b, o + i, none⟩ = some (.string (S x)) := by
  obtain ⟨a', c', hv, _, hr⟩ := h
  simp only [Value.slice.injEq, true_and] at hv
  obtain ⟨rfl, rfl⟩ := hv
  obtain ⟨b, o, cs, ha, hb, _, _, hc, hP⟩ := hr i x hx
  unfold TxtM at hP
  subst hP
  have := hc 0 _ rfl
  exact ⟨b, o, ha, hb, by simpa using this⟩

set_option maxHeartbeats 4000000 in
theorem sameTX_any (a b : Option Addr) (c d : Nat) (ts : List (List UInt8)) (w : World) (hF : TxtsM anyB w (.slice a ts.length c) ts) (hG : TxtsM anyB w (.slice b ts.length d) ts) :
    Calls Tryd.prog 22 #[.slice a ts.length c, .slice b ts.length d] w fun e w' => e = .returned (.bool true) ∧ Below w.heap.size w w' := by
  have hm := hF.small
  unfold maxLen at hm
  have HF := hid hF
  have HG := hid hG
  clear hF hG
  go_enter Tryd.func22, Tryd.ntmps22
  go_wp2
  go_loopw [5] (fun i wr => ∃ k : Nat, k ≤ ts.length ∧ i = .int .i64 k ∧ ∃ q, wr = w.drewN q) (fun i _ => ts.length - (intOf i).toNat)
  case atStart => exact ⟨0, Nat.zero_le _, rfl, 0, rfl⟩
  case round =>
    obtain ⟨k, hk, rfl, q, rfl⟩ := hrel
    by_cases hlt : k < ts.length
    · obtain ⟨f, hf⟩ : ∃ f, ts[k]? = some f := ⟨_, List.getElem?_eq_getElem hlt⟩
      obtain ⟨b1, o1, rfl, hb1, h1⟩ := txt_atS HF.out hf
      obtain ⟨b2, o2, rfl, hb2, h2⟩ := txt_atS HG.out hf
      clear hf
      go_wp2
      go_quiet (fail)
      go_wp2
      go_roundw
      case rel => first | exact ⟨k + 1, by omega, by go_num, _, rfl⟩ | ((repeat apply Exists.intro); exact ⟨⟨k + 1, by omega, by go_num, _, rfl⟩, rfl⟩) | (refine ⟨trivial, ?_⟩; (repeat apply Exists.intro); exact ⟨⟨k + 1, by omega, by go_num, _, rfl⟩, rfl⟩)
      case measure => simp [intOf]; omega
    · go_wp2
      go_ret
      exact ⟨rfl, wdrew (Below.refl _ _) _⟩

/-- The contract of sameTest at the same test, with so much fuel. -/
def SamT (n : Nat) : Prop := ∀ (t : Tst) (w : World) (an ak at' bn bk bt : Option Addr) (cn ck ct dn dk dt : Nat), TstM anyB n w t [.int .i64 t.kind, .int .i64 t.mat, .int .i64 t.part, .slice an t.names.length cn, .slice ak t.keys.length ck, .bool t.over, .int .i64 t.limit, .slice at' t.tests.length ct] → TstM anyB n w t [.int .i64 t.kind, .int .i64 t.mat, .int .i64 t.part, .slice bn t.names.length dn, .slice bk t.keys.length dk, .bool t.over, .int .i64 t.limit, .slice bt t.tests.length dt] →
    Calls Tryd.prog 23 #[.agg #[.int .i64 t.kind, .int .i64 t.mat, .int .i64 t.part, .slice an t.names.length cn, .slice ak t.keys.length ck, .bool t.over, .int .i64 t.limit, .slice at' t.tests.length ct], .agg #[.int .i64 t.kind, .int .i64 t.mat, .int .i64 t.part, .slice bn t.names.length dn, .slice bk t.keys.length dk, .bool t.over, .int .i64 t.limit, .slice bt t.tests.length dt]] w fun e w' => e = .returned (.bool true) ∧ Below w.heap.size w w'
theorem tst_parts {n : Nat} {w : World} {t : Tst} {an ak at' : Option Addr} {cn ck ct : Nat} (h : TstM anyB (n + 1) w t [.int .i64 t.kind, .int .i64 t.mat, .int .i64 t.part, .slice an t.names.length cn, .slice ak t.keys.length ck, .bool t.over, .int .i64 t.limit, .slice at' t.tests.length ct]) :
    TxtsM anyB w (.slice an t.names.length cn) t.names ∧ TxtsM anyB w (.slice ak t.keys.length ck) t.keys ∧ TstsM anyB n w (.slice at' t.tests.length ct) t.tests := by
  obtain ⟨vn, vk, vt, he, h1, h2, h3⟩ := h
  simp only [List.cons.injEq, true_and, and_true] at he
  obtain ⟨rfl, rfl, rfl⟩ := he
  exact ⟨h1, h2, h3⟩
theorem cells8 {w : World} {b : Nat} {c0 c1 c2 c3 c4 c5 c6 c7 : Value} {t : TypeId} (h : w.heap[b]? = some (.cells #[c0, c1, c2, c3, c4, c5, c6, c7] t)) : w.cell? ⟨b, 0, none⟩ = some c0 ∧ w.cell? ⟨b, 1, none⟩ = some c1 ∧ w.cell? ⟨b, 2, none⟩ = some c2 ∧ w.cell? ⟨b, 3, none⟩ = some c3 ∧ w.cell? ⟨b, 4, none⟩ = some c4 ∧ w.cell? ⟨b, 5, none⟩ = some c5 ∧ w.cell? ⟨b, 6, none⟩ = some c6 ∧ w.cell? ⟨b, 7, none⟩ = some c7 := by
  refine ⟨?_, ?_, ?_, ?_, ?_, ?_, ?_, ?_⟩ <;> simp [World.cell?, h]

set_option maxHeartbeats 8000000 in
set_option maxRecDepth 100000 in
theorem sameTst_any (n : Nat) : SamT n := by
  induction n with
  | zero => intro t w an ak at' bn bk bt cn ck ct dn dk dt h; exact h.elim
  | succ n ih =>
    intro t w an ak at' bn bk bt cn ck ct dn dk dt hA hB
    obtain ⟨a1, a2, a3⟩ := tst_parts hA
    obtain ⟨b1, b2, b3⟩ := tst_parts hB
    have A1 := hid a1
    have A2 := hid a2
    have A3 := hid a3
    have B1 := hid b1
    have B2 := hid b2
    have B3 := hid b3
    have HIH := hid ih
    have hmx := a3.small
    unfold maxLen at hmx
    clear hA hB a1 a2 a3 b1 b2 b3 ih
    obtain ⟨W0, hW0⟩ : ∃ W0, W0 = (w.alloc (.cells #[.int .i64 t.kind, .int .i64 t.mat, .int .i64 t.part, .slice an t.names.length cn, .slice ak t.keys.length ck, .bool t.over, .int .i64 t.limit, .slice at' t.tests.length ct] 26)).alloc (.cells #[.int .i64 t.kind, .int .i64 t.mat, .int .i64 t.part, .slice bn t.names.length dn, .slice bk t.keys.length dk, .bool t.over, .int .i64 t.limit, .slice bt t.tests.length dt] 26) := ⟨_, rfl⟩
    have hz1 : (w.alloc (.cells #[.int .i64 t.kind, .int .i64 t.mat, .int .i64 t.part, .slice an t.names.length cn, .slice ak t.keys.length ck, .bool t.over, .int .i64 t.limit, .slice at' t.tests.length ct] 26)).heap.size = w.heap.size + 1 := by simp
    have hB0 : Below w.heap.size w W0 := by rw [hW0]; exact ((Below.refl _ _).alloc (Nat.le_refl _) _).alloc (by simp) _
    have e4 : W0.heap[w.heap.size]? = some (.cells #[.int .i64 t.kind, .int .i64 t.mat, .int .i64 t.part, .slice an t.names.length cn, .slice ak t.keys.length ck, .bool t.over, .int .i64 t.limit, .slice at' t.tests.length ct] 26) := by
      rw [hW0]
      show (Array.push _ _)[w.heap.size]? = _
      rw [Array.getElem?_push_lt (by rw [hz1]; omega)]
      rw [← Array.getElem?_eq_getElem]
      exact heap_alloc_new w _
    have e5 : W0.heap[w.heap.size + 1]? = some (.cells #[.int .i64 t.kind, .int .i64 t.mat, .int .i64 t.part, .slice bn t.names.length dn, .slice bk t.keys.length dk, .bool t.over, .int .i64 t.limit, .slice bt t.tests.length dt] 26) := by
      rw [hW0, ← hz1]
      exact heap_alloc_new _ _
    have HC := hid (show ∀ W : World, Below W0.heap.size W0 W → W.heap[w.heap.size]? = some (.cells #[.int .i64 t.kind, .int .i64 t.mat, .int .i64 t.part, .slice an t.names.length cn, .slice ak t.keys.length ck, .bool t.over, .int .i64 t.limit, .slice at' t.tests.length ct] 26) ∧ W.heap[w.heap.size + 1]? = some (.cells #[.int .i64 t.kind, .int .i64 t.mat, .int .i64 t.part, .slice bn t.names.length dn, .slice bk t.keys.length dk, .bool t.over, .int .i64 t.limit, .slice bt t.tests.length dt] 26) from
      fun W hb => ⟨(hb.block _ (Array.getElem?_eq_some_iff.1 e4).1).trans e4, (hb.block _ (Array.getElem?_eq_some_iff.1 e5).1).trans e5⟩)
    obtain ⟨g0, g1, g2, g3, g4, g5, g6, g7⟩ := cells8 e4
    obtain ⟨k0, k1, k2, k3, k4, k5, k6, k7⟩ := cells8 e5
    have HWE := hid hW0
    have HB0 := hid hB0
    clear hW0 hB0 e4 e5 hz1
    go_enter Tryd.func23, Tryd.ntmps23
    go_wp2_with fail
    rw [← HWE.out]
    refine (sameTX_any an bn cn dn t.names W0 (A1.out.next HB0.out) (B1.out.next HB0.out)).mono ?_
    rintro e w1 ⟨rfl, hb1⟩
    have HB1 := hid hb1
    obtain ⟨e4, e5⟩ := HC.out w1 hb1
    clear hb1 g0 g1 g2 g3 g4 g5 g6 g7 k0 k1 k2 k3 k4 k5 k6 k7
    obtain ⟨g0, g1, g2, g3, g4, g5, g6, g7⟩ := cells8 e4
    obtain ⟨k0, k1, k2, k3, k4, k5, k6, k7⟩ := cells8 e5
    clear e4 e5
    go_wp2_with fail
    refine (sameTX_any ak bk ck dk t.keys w1 ((A2.out.next HB0.out).next HB1.out) ((B2.out.next HB0.out).next HB1.out)).mono ?_
    rintro e w2 ⟨rfl, hb2⟩
    have HB2 := hid (show Below W0.heap.size W0 w2 from HB1.out.trans (hb2.mono HB1.out.size))
    obtain ⟨e4, e5⟩ := HC.out w2 HB2.out
    clear hb2 g0 g1 g2 g3 g4 g5 g6 g7 k0 k1 k2 k3 k4 k5 k6 k7
    obtain ⟨g0, g1, g2, g3, g4, g5, g6, g7⟩ := cells8 e4
    obtain ⟨k0, k1, k2, k3, k4, k5, k6, k7⟩ := cells8 e5
    clear e4 e5
    go_wp2
    clear g0 g1 g2 g3 g4 g5 g6 g7 k0 k1 k2 k3 k4 k5 k6 k7
    go_loopw [5] (fun i wr => ∃ k : Nat, k ≤ t.tests.length ∧ i = .int .i64 k ∧ Hid (Below W0.heap.size W0 wr)) (fun i _ => t.tests.length - (intOf i).toNat)
    case atStart => exact ⟨0, Nat.zero_le _, rfl, HB2⟩
    case round =>
      obtain ⟨i, hk, rfl, HBr⟩ := hrel
      obtain ⟨e4, e5⟩ := HC.out wr HBr.out
      have g7 := (cells8 e4).2.2.2.2.2.2.2
      have k7 := (cells8 e5).2.2.2.2.2.2.2
      clear e4 e5
      by_cases hlt : i < t.tests.length
      · have i1 : (i : Int) < (t.tests.length : Int) := by omega
        have i3 : (0 : Int) ≤ (i : Int) := by omega
        obtain ⟨x, hx⟩ : ∃ x, t.tests[i]? = some x := ⟨_, List.getElem?_eq_getElem hlt⟩
        obtain ⟨p1, o1, xn, yn, xk, yk, xt, yt, rfl, hp1, c0, c1, c2, c3, c4, c5, c6, c7, hT1⟩ := tst_at ((A3.out.next HB0.out).next HBr.out) hx
        obtain ⟨p2, o2, un, vn, uk, vk, ut, vt, rfl, hp2, d0, d1, d2, d3, d4, d5, d6, d7, hT2⟩ := tst_at ((B3.out.next HB0.out).next HBr.out) hx
        have HT1 := hid (hT1.next (Below.refl _ wr).drew)
        have HT2 := hid (hT2.next (Below.refl _ wr).drew)
        clear hx hT1 hT2
        go_wp2
        go_region_held3 (fun w' => w'.cell? ⟨w.heap.size, 7, none⟩ = some (.slice (some ⟨p1, o1, none⟩) t.tests.length ct) ∧ w'.cell? ⟨w.heap.size + 1, 7, none⟩ = some (.slice (some ⟨p2, o2, none⟩) t.tests.length dt) ∧ w'.cell? ⟨p1, o1 + i * 8, none⟩ = some (.int .i64 x.kind) ∧ w'.cell? ⟨p1, o1 + i * 8 + 1, none⟩ = some (.int .i64 x.mat) ∧ w'.cell? ⟨p1, o1 + i * 8 + 2, none⟩ = some (.int .i64 x.part) ∧ w'.cell? ⟨p1, o1 + i * 8 + 3, none⟩ = some (.slice xn x.names.length yn) ∧ w'.cell? ⟨p1, o1 + i * 8 + 4, none⟩ = some (.slice xk x.keys.length yk) ∧ w'.cell? ⟨p1, o1 + i * 8 + 5, none⟩ = some (.bool x.over) ∧ w'.cell? ⟨p1, o1 + i * 8 + 6, none⟩ = some (.int .i64 x.limit) ∧ w'.cell? ⟨p1, o1 + i * 8 + 7, none⟩ = some (.slice xt x.tests.length yt) ∧ w'.cell? ⟨p2, o2 + i * 8, none⟩ = some (.int .i64 x.kind) ∧ w'.cell? ⟨p2, o2 + i * 8 + 1, none⟩ = some (.int .i64 x.mat) ∧ w'.cell? ⟨p2, o2 + i * 8 + 2, none⟩ = some (.int .i64 x.part) ∧ w'.cell? ⟨p2, o2 + i * 8 + 3, none⟩ = some (.slice un x.names.length vn) ∧ w'.cell? ⟨p2, o2 + i * 8 + 4, none⟩ = some (.slice uk x.keys.length vk) ∧ w'.cell? ⟨p2, o2 + i * 8 + 5, none⟩ = some (.bool x.over) ∧ w'.cell? ⟨p2, o2 + i * 8 + 6, none⟩ = some (.int .i64 x.limit) ∧ w'.cell? ⟨p2, o2 + i * 8 + 7, none⟩ = some (.slice ut x.tests.length vt)) (go_keep)
          (first
             | (go_at_call 23
                refine (HIH.out x _ _ _ _ _ _ _ _ _ _ _ _ _ HT1.out HT2.out).mono ?_
                rintro e u2 ⟨rfl, hb⟩
                have q0 : u2.cell? ⟨w.heap.size, 7, none⟩ = some (.slice (some ⟨p1, o1, none⟩) t.tests.length ct) := wcell_next (w := wr.drew) g7 hb
                have q1 : u2.cell? ⟨w.heap.size + 1, 7, none⟩ = some (.slice (some ⟨p2, o2, none⟩) t.tests.length dt) := wcell_next (w := wr.drew) k7 hb
                have q2 : u2.cell? ⟨p1, o1 + i * 8, none⟩ = some (.int .i64 x.kind) := wcell_next (w := wr.drew) c0 hb
                have q3 : u2.cell? ⟨p1, o1 + i * 8 + 1, none⟩ = some (.int .i64 x.mat) := wcell_next (w := wr.drew) c1 hb
                have q4 : u2.cell? ⟨p1, o1 + i * 8 + 2, none⟩ = some (.int .i64 x.part) := wcell_next (w := wr.drew) c2 hb
                have q5 : u2.cell? ⟨p1, o1 + i * 8 + 3, none⟩ = some (.slice xn x.names.length yn) := wcell_next (w := wr.drew) c3 hb
                have q6 : u2.cell? ⟨p1, o1 + i * 8 + 4, none⟩ = some (.slice xk x.keys.length yk) := wcell_next (w := wr.drew) c4 hb
                have q7 : u2.cell? ⟨p1, o1 + i * 8 + 5, none⟩ = some (.bool x.over) := wcell_next (w := wr.drew) c5 hb
                have q8 : u2.cell? ⟨p1, o1 + i * 8 + 6, none⟩ = some (.int .i64 x.limit) := wcell_next (w := wr.drew) c6 hb
                have q9 : u2.cell? ⟨p1, o1 + i * 8 + 7, none⟩ = some (.slice xt x.tests.length yt) := wcell_next (w := wr.drew) c7 hb
                have q10 : u2.cell? ⟨p2, o2 + i * 8, none⟩ = some (.int .i64 x.kind) := wcell_next (w := wr.drew) d0 hb
                have q11 : u2.cell? ⟨p2, o2 + i * 8 + 1, none⟩ = some (.int .i64 x.mat) := wcell_next (w := wr.drew) d1 hb
                have q12 : u2.cell? ⟨p2, o2 + i * 8 + 2, none⟩ = some (.int .i64 x.part) := wcell_next (w := wr.drew) d2 hb
                have q13 : u2.cell? ⟨p2, o2 + i * 8 + 3, none⟩ = some (.slice un x.names.length vn) := wcell_next (w := wr.drew) d3 hb
                have q14 : u2.cell? ⟨p2, o2 + i * 8 + 4, none⟩ = some (.slice uk x.keys.length vk) := wcell_next (w := wr.drew) d4 hb
                have q15 : u2.cell? ⟨p2, o2 + i * 8 + 5, none⟩ = some (.bool x.over) := wcell_next (w := wr.drew) d5 hb
                have q16 : u2.cell? ⟨p2, o2 + i * 8 + 6, none⟩ = some (.int .i64 x.limit) := wcell_next (w := wr.drew) d6 hb
                have q17 : u2.cell? ⟨p2, o2 + i * 8 + 7, none⟩ = some (.slice ut x.tests.length vt) := wcell_next (w := wr.drew) d7 hb))
        have HB3 := hid (show Below W0.heap.size W0 u2 from HBr.out.drew.trans (hb.mono HBr.out.drew.size))
        clear hb
        go_wp2
        go_roundw
        case rel => first | exact ⟨i + 1, by omega, by go_num, HB3⟩ | ((repeat apply Exists.intro); exact ⟨⟨i + 1, by omega, by go_num, HB3⟩, rfl⟩) | (refine ⟨trivial, ?_⟩; (repeat apply Exists.intro); exact ⟨⟨i + 1, by omega, by go_num, HB3⟩, rfl⟩)
        case measure => simp [intOf]; omega
      · have i1 : ¬ (i : Int) < (t.tests.length : Int) := by omega
        go_wp2
        go_ret
        exact ⟨rfl, HB0.out.trans (HBr.out.mono HB0.out.size)⟩
end Go.Proofs.YtdmiidbncpgfpabDoor
