/-
  What postroomkeep's sameTexts, sameTest, sameCommands do with the same: the walks.
  What postroomkeep's sameCommands does with the same: the walk.
-/
import Derived.Test.YtnjlakengbhokaaDoorScrCk
import Derived.Deep.RegionHeld3
import Derived.Deep.QuietTactic
import Derived.BigQuiet
namespace Go.Proofs.YtnjlakengbhokaaDoor
open Go.RowKit Go.Proofs

theorem txt_atS {Q : Nat → Prop} {w : World} {a : Option Addr} {c : Nat} {l : List (List UInt8)} (h : TxtsM Q w (.slice a l.length c) l) {i : Nat} {x : List UInt8} (hx : l[i]? = some x) : ∃ b o, a = some ⟨b, o, none⟩ ∧ b < w.heap.size ∧ w.cell? ⟨b, o + i, none⟩ = some (.string (S x)) := by
  obtain ⟨a', c', hv, _, hr⟩ := h
  simp only [Value.slice.injEq, true_and] at hv
  obtain ⟨rfl, rfl⟩ := hv
  obtain ⟨b, o, cs, ha, hb, _, _, hc, hP⟩ := hr i x hx
  unfold TxtM at hP
  subst hP
  have := hc 0 _ rfl
  exact ⟨b, o, ha, hb, by simpa using this⟩

set_option maxHeartbeats 4000000 in
theorem sameTX_any (a b : Option Addr) (c d : Nat) (ts : List (List UInt8)) (w : World) (hF : TxtsM anyB w (.slice a ts.length c) ts) (hG : TxtsM anyB w (.slice b ts.length d) ts) :
    Calls Tryd.prog 31 #[.slice a ts.length c, .slice b ts.length d] w fun e w' => e = .returned (.bool true) ∧ Below w.heap.size w w' := by
  have hm := hF.small
  unfold maxLen at hm
  have HF := hid hF
  have HG := hid hG
  clear hF hG
  go_enter Tryd.func31, Tryd.ntmps31
  go_wp2
  go_loopw [5] (fun i wr => ∃ k : Nat, k ≤ ts.length ∧ i = .int .i64 k ∧ ∃ q, wr = w.drewN q) (fun i _ => ts.length - (intOf i).toNat)
  case atStart => exact ⟨0, Nat.zero_le _, rfl, 0, rfl⟩
  case round =>
    obtain ⟨k, hk, rfl, q, rfl⟩ := hrel
    by_cases hlt : k < ts.length
    · obtain ⟨f, hf⟩ : ∃ f, ts[k]? = some f := ⟨_, List.getElem?_eq_getElem hlt⟩
      obtain ⟨b1, o1, rfl, hb1, h1⟩ := txt_atS HF.out hf
      obtain ⟨b2, o2, rfl, hb2, h2⟩ := txt_atS HG.out hf
      clear hf
      go_wp2
      go_quiet (fail)
      go_wp2
      go_roundw
      case rel => first | exact ⟨k + 1, by omega, by go_num, _, rfl⟩ | ((repeat apply Exists.intro); exact ⟨⟨k + 1, by omega, by go_num, _, rfl⟩, rfl⟩) | (refine ⟨trivial, ?_⟩; (repeat apply Exists.intro); exact ⟨⟨k + 1, by omega, by go_num, _, rfl⟩, rfl⟩)
      case measure => simp [intOf]; omega
    · go_wp2
      go_ret
      exact ⟨rfl, wdrew (Below.refl _ _) _⟩

/-- The contract of sameTest at the same test, with so much fuel. -/
def SamT (n : Nat) : Prop := ∀ (t : Tst) (w : World) (an ak at' bn bk bt : Option Addr) (cn ck ct dn dk dt : Nat), TstM anyB n w t [.int .i64 t.kind, .int .i64 t.mat, .int .i64 t.part, .slice an t.names.length cn, .slice ak t.keys.length ck, .bool t.over, .int .i64 t.limit, .slice at' t.tests.length ct] → TstM anyB n w t [.int .i64 t.kind, .int .i64 t.mat, .int .i64 t.part, .slice bn t.names.length dn, .slice bk t.keys.length dk, .bool t.over, .int .i64 t.limit, .slice bt t.tests.length dt] →
    Calls Tryd.prog 32 #[.agg #[.int .i64 t.kind, .int .i64 t.mat, .int .i64 t.part, .slice an t.names.length cn, .slice ak t.keys.length ck, .bool t.over, .int .i64 t.limit, .slice at' t.tests.length ct], .agg #[.int .i64 t.kind, .int .i64 t.mat, .int .i64 t.part, .slice bn t.names.length dn, .slice bk t.keys.length dk, .bool t.over, .int .i64 t.limit, .slice bt t.tests.length dt]] w fun e w' => e = .returned (.bool true) ∧ Below w.heap.size w w'
theorem tst_parts {n : Nat} {w : World} {t : Tst} {an ak at' : Option Addr} {cn ck ct : Nat} (h : TstM anyB (n + 1) w t [.int .i64 t.kind, .int .i64 t.mat, .int .i64 t.part, .slice an t.names.length cn, .slice ak t.keys.length ck, .bool t.over, .int .i64 t.limit, .slice at' t.tests.length ct]) :
    TxtsM anyB w (.slice an t.names.length cn) t.names ∧ TxtsM anyB w (.slice ak t.keys.length ck) t.keys ∧ TstsM anyB n w (.slice at' t.tests.length ct) t.tests := by
  obtain ⟨vn, vk, vt, he, h1, h2, h3⟩ := h
  simp only [List.cons.injEq, true_and, and_true] at he
  obtain ⟨rfl, rfl, rfl⟩ := he
  exact ⟨h1, h2, h3⟩
theorem cells8 {w : World} {b : Nat} {c0 c1 c2 c3 c4 c5 c6 c7 : Value} {t : TypeId} (h : w.heap[b]? = some (.cells #[c0, c1, c2, c3, c4, c5, c6, c7] t)) : w.cell? ⟨b, 0, none⟩ = some c0 ∧ w.cell? ⟨b, 1, none⟩ = some c1 ∧ w.cell? ⟨b, 2, none⟩ = some c2 ∧ w.cell? ⟨b, 3, none⟩ = some c3 ∧ w.cell? ⟨b, 4, none⟩ = some c4 ∧ w.cell? ⟨b, 5, none⟩ = some c5 ∧ w.cell? ⟨b, 6, none⟩ = some c6 ∧ w.cell? ⟨b, 7, none⟩ = some c7 := by
  refine ⟨?_, ?_, ?_, ?_, ?_, ?_, ?_, ?_⟩ <;> simp [World.cell?, h]

set_option maxHeartbeats 8000000 in
set_option maxRecDepth 100000 in
theorem sameTst_any (n : Nat) : SamT n := by
  induction n with
  | zero => intro t w an ak at' bn bk bt cn ck ct dn dk dt h; exact h.elim
  | succ n ih =>
    intro t w an ak at' bn bk bt cn ck ct dn dk dt hA hB
    obtain ⟨a1, a2, a3⟩ := tst_parts hA
    obtain ⟨b1, b2, b3⟩ := tst_parts hB
    have A1 := hid a1
    have A2 := hid a2
    have A3 := hid a3
    have B1 := hid b1
    have B2 := hid b2
    have B3 := hid b3
    have HIH := hid ih
    have hmx := a3.small
    unfold maxLen at hmx
    clear hA hB a1 a2 a3 b1 b2 b3 ih
    obtain ⟨W0, hW0⟩ : ∃ W0, W0 = (w.alloc (.cells #[.int .i64 t.kind, .int .i64 t.mat, .int .i64 t.part, .slice an t.names.length cn, .slice ak t.keys.length ck, .bool t.over, .int .i64 t.limit, .slice at' t.tests.length ct] 33)).alloc (.cells #[.int .i64 t.kind, .int .i64 t.mat, .int .i64 t.part, .slice bn t.names.length dn, .slice bk t.keys.length dk, .bool t.over, .int .i64 t.limit, .slice bt t.tests.length dt] 33) := ⟨_, rfl⟩
    have hz1 : (w.alloc (.cells #[.int .i64 t.kind, .int .i64 t.mat, .int .i64 t.part, .slice an t.names.length cn, .slice ak t.keys.length ck, .bool t.over, .int .i64 t.limit, .slice at' t.tests.length ct] 33)).heap.size = w.heap.size + 1 := by simp
    have hB0 : Below w.heap.size w W0 := by rw [hW0]; exact ((Below.refl _ _).alloc (Nat.le_refl _) _).alloc (by simp) _
    have e4 : W0.heap[w.heap.size]? = some (.cells #[.int .i64 t.kind, .int .i64 t.mat, .int .i64 t.part, .slice an t.names.length cn, .slice ak t.keys.length ck, .bool t.over, .int .i64 t.limit, .slice at' t.tests.length ct] 33) := by
      rw [hW0]
      show (Array.push _ _)[w.heap.size]? = _
      rw [Array.getElem?_push_lt (by rw [hz1]; omega)]
      rw [← Array.getElem?_eq_getElem]
      exact heap_alloc_new w _
    have e5 : W0.heap[w.heap.size + 1]? = some (.cells #[.int .i64 t.kind, .int .i64 t.mat, .int .i64 t.part, .slice bn t.names.length dn, .slice bk t.keys.length dk, .bool t.over, .int .i64 t.limit, .slice bt t.tests.length dt] 33) := by
      rw [hW0, ← hz1]
      exact heap_alloc_new _ _
    have HC := hid (show ∀ W : World, Below W0.heap.size W0 W → W.heap[w.heap.size]? = some (.cells #[.int .i64 t.kind, .int .i64 t.mat, .int .i64 t.part, .slice an t.names.length cn, .slice ak t.keys.length ck, .bool t.over, .int .i64 t.limit, .slice at' t.tests.length ct] 33) ∧ W.heap[w.heap.size + 1]? = some (.cells #[.int .i64 t.kind, .int .i64 t.mat, .int .i64 t.part, .slice bn t.names.length dn, .slice bk t.keys.length dk, .bool t.over, .int .i64 t.limit, .slice bt t.tests.length dt] 33) from
      fun W hb => ⟨(hb.block _ (Array.getElem?_eq_some_iff.1 e4).1).trans e4, (hb.block _ (Array.getElem?_eq_some_iff.1 e5).1).trans e5⟩)
    obtain ⟨g0, g1, g2, g3, g4, g5, g6, g7⟩ := cells8 e4
    obtain ⟨k0, k1, k2, k3, k4, k5, k6, k7⟩ := cells8 e5
    have HWE := hid hW0
    have HB0 := hid hB0
    clear hW0 hB0 e4 e5 hz1
    go_enter Tryd.func32, Tryd.ntmps32
    go_wp2_with fail
    rw [← HWE.out]
    refine (sameTX_any an bn cn dn t.names W0 (A1.out.next HB0.out) (B1.out.next HB0.out)).mono ?_
    rintro e w1 ⟨rfl, hb1⟩
    have HB1 := hid hb1
    obtain ⟨e4, e5⟩ := HC.out w1 hb1
    clear hb1 g0 g1 g2 g3 g4 g5 g6 g7 k0 k1 k2 k3 k4 k5 k6 k7
    obtain ⟨g0, g1, g2, g3, g4, g5, g6, g7⟩ := cells8 e4
    obtain ⟨k0, k1, k2, k3, k4, k5, k6, k7⟩ := cells8 e5
    clear e4 e5
    go_wp2_with fail
    refine (sameTX_any ak bk ck dk t.keys w1 ((A2.out.next HB0.out).next HB1.out) ((B2.out.next HB0.out).next HB1.out)).mono ?_
    rintro e w2 ⟨rfl, hb2⟩
    have HB2 := hid (show Below W0.heap.size W0 w2 from HB1.out.trans (hb2.mono HB1.out.size))
    obtain ⟨e4, e5⟩ := HC.out w2 HB2.out
    clear hb2 g0 g1 g2 g3 g4 g5 g6 g7 k0 k1 k2 k3 k4 k5 k6 k7
    obtain ⟨g0, g1, g2, g3, g4, g5, g6, g7⟩ := cells8 e4
    obtain ⟨k0, k1, k2, k3, k4, k5, k6, k7⟩ := cells8 e5
    clear e4 e5
    go_wp2
    clear g0 g1 g2 g3 g4 g5 g6 g7 k0 k1 k2 k3 k4 k5 k6 k7
    go_loopw [5] (fun i wr => ∃ k : Nat, k ≤ t.tests.length ∧ i = .int .i64 k ∧ Hid (Below W0.heap.size W0 wr)) (fun i _ => t.tests.length - (intOf i).toNat)
    case atStart => exact ⟨0, Nat.zero_le _, rfl, HB2⟩
    case round =>
      obtain ⟨i, hk, rfl, HBr⟩ := hrel
      obtain ⟨e4, e5⟩ := HC.out wr HBr.out
      have g7 := (cells8 e4).2.2.2.2.2.2.2
      have k7 := (cells8 e5).2.2.2.2.2.2.2
      clear e4 e5
      by_cases hlt : i < t.tests.length
      · have i1 : (i : Int) < (t.tests.length : Int) := by omega
        have i3 : (0 : Int) ≤ (i : Int) := by omega
        obtain ⟨x, hx⟩ : ∃ x, t.tests[i]? = some x := ⟨_, List.getElem?_eq_getElem hlt⟩
        obtain ⟨p1, o1, xn, yn, xk, yk, xt, yt, rfl, hp1, c0, c1, c2, c3, c4, c5, c6, c7, hT1⟩ := tst_at ((A3.out.next HB0.out).next HBr.out) hx
        obtain ⟨p2, o2, un, vn, uk, vk, ut, vt, rfl, hp2, d0, d1, d2, d3, d4, d5, d6, d7, hT2⟩ := tst_at ((B3.out.next HB0.out).next HBr.out) hx
        have HT1 := hid (hT1.next (Below.refl _ wr).drew)
        have HT2 := hid (hT2.next (Below.refl _ wr).drew)
        clear hx hT1 hT2
        go_wp2
        go_region_held3 (fun w' => w'.cell? ⟨w.heap.size, 7, none⟩ = some (.slice (some ⟨p1, o1, none⟩) t.tests.length ct) ∧ w'.cell? ⟨w.heap.size + 1, 7, none⟩ = some (.slice (some ⟨p2, o2, none⟩) t.tests.length dt) ∧ w'.cell? ⟨p1, o1 + i * 8, none⟩ = some (.int .i64 x.kind) ∧ w'.cell? ⟨p1, o1 + i * 8 + 1, none⟩ = some (.int .i64 x.mat) ∧ w'.cell? ⟨p1, o1 + i * 8 + 2, none⟩ = some (.int .i64 x.part) ∧ w'.cell? ⟨p1, o1 + i * 8 + 3, none⟩ = some (.slice xn x.names.length yn) ∧ w'.cell? ⟨p1, o1 + i * 8 + 4, none⟩ = some (.slice xk x.keys.length yk) ∧ w'.cell? ⟨p1, o1 + i * 8 + 5, none⟩ = some (.bool x.over) ∧ w'.cell? ⟨p1, o1 + i * 8 + 6, none⟩ = some (.int .i64 x.limit) ∧ w'.cell? ⟨p1, o1 + i * 8 + 7, none⟩ = some (.slice xt x.tests.length yt) ∧ w'.cell? ⟨p2, o2 + i * 8, none⟩ = some (.int .i64 x.kind) ∧ w'.cell? ⟨p2, o2 + i * 8 + 1, none⟩ = some (.int .i64 x.mat) ∧ w'.cell? ⟨p2, o2 + i * 8 + 2, none⟩ = some (.int .i64 x.part) ∧ w'.cell? ⟨p2, o2 + i * 8 + 3, none⟩ = some (.slice un x.names.length vn) ∧ w'.cell? ⟨p2, o2 + i * 8 + 4, none⟩ = some (.slice uk x.keys.length vk) ∧ w'.cell? ⟨p2, o2 + i * 8 + 5, none⟩ = some (.bool x.over) ∧ w'.cell? ⟨p2, o2 + i * 8 + 6, none⟩ = some (.int .i64 x.limit) ∧ w'.cell? ⟨p2, o2 + i * 8 + 7, none⟩ = some (.slice ut x.tests.length vt)) (go_keep)
          (first
             | (go_at_call 32
                refine (HIH.out x _ _ _ _ _ _ _ _ _ _ _ _ _ HT1.out HT2.out).mono ?_
                rintro e u2 ⟨rfl, hb⟩
                have q0 : u2.cell? ⟨w.heap.size, 7, none⟩ = some (.slice (some ⟨p1, o1, none⟩) t.tests.length ct) := wcell_next (w := wr.drew) g7 hb
                have q1 : u2.cell? ⟨w.heap.size + 1, 7, none⟩ = some (.slice (some ⟨p2, o2, none⟩) t.tests.length dt) := wcell_next (w := wr.drew) k7 hb
                have q2 : u2.cell? ⟨p1, o1 + i * 8, none⟩ = some (.int .i64 x.kind) := wcell_next (w := wr.drew) c0 hb
                have q3 : u2.cell? ⟨p1, o1 + i * 8 + 1, none⟩ = some (.int .i64 x.mat) := wcell_next (w := wr.drew) c1 hb
                have q4 : u2.cell? ⟨p1, o1 + i * 8 + 2, none⟩ = some (.int .i64 x.part) := wcell_next (w := wr.drew) c2 hb
                have q5 : u2.cell? ⟨p1, o1 + i * 8 + 3, none⟩ = some (.slice xn x.names.length yn) := wcell_next (w := wr.drew) c3 hb
                have q6 : u2.cell? ⟨p1, o1 + i * 8 + 4, none⟩ = some (.slice xk x.keys.length yk) := wcell_next (w := wr.drew) c4 hb
                have q7 : u2.cell? ⟨p1, o1 + i * 8 + 5, none⟩ = some (.bool x.over) := wcell_next (w := wr.drew) c5 hb
                have q8 : u2.cell? ⟨p1, o1 + i * 8 + 6, none⟩ = some (.int .i64 x.limit) := wcell_next (w := wr.drew) c6 hb
                have q9 : u2.cell? ⟨p1, o1 + i * 8 + 7, none⟩ = some (.slice xt x.tests.length yt) := wcell_next (w := wr.drew) c7 hb
                have q10 : u2.cell? ⟨p2, o2 + i * 8, none⟩ = some (.int .i64 x.kind) := wcell_next (w := wr.drew) d0 hb
                have q11 : u2.cell? ⟨p2, o2 + i * 8 + 1, none⟩ = some (.int .i64 x.mat) := wcell_next (w := wr.drew) d1 hb
                have q12 : u2.cell? ⟨p2, o2 + i * 8 + 2, none⟩ = some (.int .i64 x.part) := wcell_next (w := wr.drew) d2 hb
                have q13 : u2.cell? ⟨p2, o2 + i * 8 + 3, none⟩ = some (.slice un x.names.length vn) := wcell_next (w := wr.drew) d3 hb
                have q14 : u2.cell? ⟨p2, o2 + i * 8 + 4, none⟩ = some (.slice uk x.keys.length vk) := wcell_next (w := wr.drew) d4 hb
                have q15 : u2.cell? ⟨p2, o2 + i * 8 + 5, none⟩ = some (.bool x.over) := wcell_next (w := wr.drew) d5 hb
                have q16 : u2.cell? ⟨p2, o2 + i * 8 + 6, none⟩ = some (.int .i64 x.limit) := wcell_next (w := wr.drew) d6 hb
                have q17 : u2.cell? ⟨p2, o2 + i * 8 + 7, none⟩ = some (.slice ut x.tests.length vt) := wcell_next (w := wr.drew) d7 hb))
        have HB3 := hid (show Below W0.heap.size W0 u2 from HBr.out.drew.trans (hb.mono HBr.out.drew.size))
        clear hb
        go_wp2
        go_roundw
        case rel => first | exact ⟨i + 1, by omega, by go_num, HB3⟩ | ((repeat apply Exists.intro); exact ⟨⟨i + 1, by omega, by go_num, HB3⟩, rfl⟩) | (refine ⟨trivial, ?_⟩; (repeat apply Exists.intro); exact ⟨⟨i + 1, by omega, by go_num, HB3⟩, rfl⟩)
        case measure => simp [intOf]; omega
      · have i1 : ¬ (i : Int) < (t.tests.length : Int) := by omega
        go_wp2
        go_ret
        exact ⟨rfl, HB0.out.trans (HBr.out.mono HB0.out.size)⟩
end Go.Proofs.YtnjlakengbhokaaDoor

namespace Go.Proofs.YtnjlakengbhokaaDoor
open Go.RowKit Go.Proofs

theorem cmd_halves {n : Nat} {w : World} {c : Cmd} {ax an ak at' aa ae : Option Addr} {cx cn ck ct ca ce : Nat} (h : CmdM anyB (n + 1) w c [.int .i64 c.kind, .slice ax c.texts.length cx, .int .i64 c.test.kind, .int .i64 c.test.mat, .int .i64 c.test.part, .slice an c.test.names.length cn, .slice ak c.test.keys.length ck, .bool c.test.over, .int .i64 c.test.limit, .slice at' c.test.tests.length ct, .slice aa c.thn.length ca, .slice ae c.els.length ce]) :
    TxtsM anyB w (.slice ax c.texts.length cx) c.texts ∧ TstM anyB n w c.test [.int .i64 c.test.kind, .int .i64 c.test.mat, .int .i64 c.test.part, .slice an c.test.names.length cn, .slice ak c.test.keys.length ck, .bool c.test.over, .int .i64 c.test.limit, .slice at' c.test.tests.length ct] ∧ CmdsM anyB n w (.slice aa c.thn.length ca) c.thn ∧ CmdsM anyB n w (.slice ae c.els.length ce) c.els := by
  obtain ⟨vx, vn, vk, vt, va, ve, he, h1, h2, h3, h4⟩ := h
  simp only [List.cons.injEq, true_and, and_true] at he
  obtain ⟨rfl, rfl, rfl, rfl, rfl, rfl⟩ := he
  exact ⟨h1, h2, h3, h4⟩
def SS (p1 o1 p2 o2 i : Nat) (x : Cmd) (fx fn fk ft fa fe gx gn gk gt ga ge : Option Addr) (fX fN fK fT fA fE gX gN gK gT gA gE : Nat) (w' : World) : Prop := w'.cell? ⟨p1, o1 + i * 12, none⟩ = some (.int .i64 x.kind) ∧ w'.cell? ⟨p1, o1 + i * 12 + 1, none⟩ = some (.slice fx x.texts.length fX) ∧ w'.cell? ⟨p1, o1 + i * 12 + 2, none⟩ = some (.int .i64 x.test.kind) ∧ w'.cell? ⟨p1, o1 + i * 12 + 3, none⟩ = some (.int .i64 x.test.mat) ∧ w'.cell? ⟨p1, o1 + i * 12 + 4, none⟩ = some (.int .i64 x.test.part) ∧ w'.cell? ⟨p1, o1 + i * 12 + 5, none⟩ = some (.slice fn x.test.names.length fN) ∧ w'.cell? ⟨p1, o1 + i * 12 + 6, none⟩ = some (.slice fk x.test.keys.length fK) ∧ w'.cell? ⟨p1, o1 + i * 12 + 7, none⟩ = some (.bool x.test.over) ∧ w'.cell? ⟨p1, o1 + i * 12 + 8, none⟩ = some (.int .i64 x.test.limit) ∧ w'.cell? ⟨p1, o1 + i * 12 + 9, none⟩ = some (.slice ft x.test.tests.length fT) ∧ w'.cell? ⟨p1, o1 + i * 12 + 10, none⟩ = some (.slice fa x.thn.length fA) ∧ w'.cell? ⟨p1, o1 + i * 12 + 11, none⟩ = some (.slice fe x.els.length fE) ∧ w'.cell? ⟨p2, o2 + i * 12, none⟩ = some (.int .i64 x.kind) ∧ w'.cell? ⟨p2, o2 + i * 12 + 1, none⟩ = some (.slice gx x.texts.length gX) ∧ w'.cell? ⟨p2, o2 + i * 12 + 2, none⟩ = some (.int .i64 x.test.kind) ∧ w'.cell? ⟨p2, o2 + i * 12 + 3, none⟩ = some (.int .i64 x.test.mat) ∧ w'.cell? ⟨p2, o2 + i * 12 + 4, none⟩ = some (.int .i64 x.test.part) ∧ w'.cell? ⟨p2, o2 + i * 12 + 5, none⟩ = some (.slice gn x.test.names.length gN) ∧ w'.cell? ⟨p2, o2 + i * 12 + 6, none⟩ = some (.slice gk x.test.keys.length gK) ∧ w'.cell? ⟨p2, o2 + i * 12 + 7, none⟩ = some (.bool x.test.over) ∧ w'.cell? ⟨p2, o2 + i * 12 + 8, none⟩ = some (.int .i64 x.test.limit) ∧ w'.cell? ⟨p2, o2 + i * 12 + 9, none⟩ = some (.slice gt x.test.tests.length gT) ∧ w'.cell? ⟨p2, o2 + i * 12 + 10, none⟩ = some (.slice ga x.thn.length gA) ∧ w'.cell? ⟨p2, o2 + i * 12 + 11, none⟩ = some (.slice ge x.els.length gE)
theorem SS.next {p1 o1 p2 o2 i : Nat} {x : Cmd} {fx fn fk ft fa fe gx gn gk gt ga ge : Option Addr} {fX fN fK fT fA fE gX gN gK gT gA gE : Nat} {w w' : World} (h : SS p1 o1 p2 o2 i x fx fn fk ft fa fe gx gn gk gt ga ge fX fN fK fT fA fE gX gN gK gT gA gE w) (hb : Below w.heap.size w w') : SS p1 o1 p2 o2 i x fx fn fk ft fa fe gx gn gk gt ga ge fX fN fK fT fA fE gX gN gK gT gA gE w' := by
  obtain ⟨h0, h1, h2, h3, h4, h5, h6, h7, h8, h9, h10, h11, h12, h13, h14, h15, h16, h17, h18, h19, h20, h21, h22, h23⟩ := h
  exact ⟨wcell_next h0 hb, wcell_next h1 hb, wcell_next h2 hb, wcell_next h3 hb, wcell_next h4 hb, wcell_next h5 hb, wcell_next h6 hb, wcell_next h7 hb, wcell_next h8 hb, wcell_next h9 hb, wcell_next h10 hb, wcell_next h11 hb, wcell_next h12 hb, wcell_next h13 hb, wcell_next h14 hb, wcell_next h15 hb, wcell_next h16 hb, wcell_next h17 hb, wcell_next h18 hb, wcell_next h19 hb, wcell_next h20 hb, wcell_next h21 hb, wcell_next h22 hb, wcell_next h23 hb⟩
/-- The contract of sameCommands at the same commands, with so much fuel. -/
def SamC (n : Nat) : Prop := ∀ (l : List Cmd) (w : World) (a b : Option Addr) (c d : Nat), CmdsM anyB n w (.slice a l.length c) l → CmdsM anyB n w (.slice b l.length d) l →
    Calls Tryd.prog 18 #[.slice a l.length c, .slice b l.length d] w fun e w' => e = .returned (.bool true) ∧ Below w.heap.size w w'

set_option maxHeartbeats 8000000 in
set_option maxRecDepth 100000 in
theorem sameCmd_any (n : Nat) : SamC n := by
  induction n with
  | zero =>
    intro l w a b c d hA hB
    have hl : l = [] := by
      cases l with
      | nil => rfl
      | cons x l =>
        exfalso
        obtain ⟨_, _, _, _, hr⟩ := hA
        obtain ⟨_, _, _, _, _, _, _, _, hP⟩ := hr 0 x rfl
        exact hP
    subst hl
    clear hA hB
    go_enter Tryd.func18, Tryd.ntmps18
    go_wp2
    go_loopw [5] (fun i wr => i = .int .i64 0 ∧ wr = w) (fun _ _ => 0)
    case atStart => exact ⟨rfl, rfl⟩
    case round =>
      obtain ⟨rfl, rfl⟩ := hrel
      go_wp2
      go_ret
      exact ⟨rfl, Below.refl _ _⟩
  | succ n ih =>
    intro l w a b c d hA hB
    have HA := hid hA
    have HB := hid hB
    have HIH := hid ih
    have hmx := hA.small
    unfold maxLen at hmx
    clear hA hB ih
    go_enter Tryd.func18, Tryd.ntmps18
    go_wp2
    go_loopw [5] (fun i wr => ∃ k : Nat, k ≤ l.length ∧ i = .int .i64 k ∧ Hid (Below w.heap.size w wr)) (fun i _ => l.length - (intOf i).toNat)
    case atStart => exact ⟨0, Nat.zero_le _, rfl, Below.refl _ _⟩
    case round =>
      obtain ⟨i, hk, rfl, HBr⟩ := hrel
      by_cases hlt : i < l.length
      · have i1 : (i : Int) < (l.length : Int) := by omega
        have i3 : (0 : Int) ≤ (i : Int) := by omega
        obtain ⟨x, hx⟩ : ∃ x, l[i]? = some x := ⟨_, List.getElem?_eq_getElem hlt⟩
        obtain ⟨p1, o1, fx, fX, fn, fN, fk, fK, ft, fT, fa, fA, fe, fE, rfl, hp1, c0, c1, c2, c3, c4, c5, c6, c7, c8, c9, c10, c11, hT1⟩ := cmd_at (HA.out.next HBr.out) hx
        obtain ⟨p2, o2, gx, gX, gn, gN, gk, gK, gt, gT, ga, gA, ge, gE, rfl, hp2, d0, d1, d2, d3, d4, d5, d6, d7, d8, d9, d10, d11, hT2⟩ := cmd_at (HB.out.next HBr.out) hx
        obtain ⟨s1, s2, s3, s4⟩ := cmd_halves hT1
        obtain ⟨r1, r2, r3, r4⟩ := cmd_halves hT2
        have hdr : Below wr.heap.size wr wr.drew := (Below.refl _ wr).drew
        have S1 := hid (s1.next hdr)
        have S2 := hid (s2.next hdr)
        have S3 := hid (s3.next hdr)
        have S4 := hid (s4.next hdr)
        have R1 := hid (r1.next hdr)
        have R2 := hid (r2.next hdr)
        have R3 := hid (r3.next hdr)
        have R4 := hid (r4.next hdr)
        have Q0 := hid (show SS p1 o1 p2 o2 i x fx fn fk ft fa fe gx gn gk gt ga ge fX fN fK fT fA fE gX gN gK gT gA gE wr.drew from ⟨c0, c1, c2, c3, c4, c5, c6, c7, c8, c9, c10, c11, d0, d1, d2, d3, d4, d5, d6, d7, d8, d9, d10, d11⟩)
        clear hx hT1 hT2 s1 s2 s3 s4 r1 r2 r3 r4 hdr c0 c1 c2 c3 c4 c5 c6 c7 c8 c9 c10 c11 d0 d1 d2 d3 d4 d5 d6 d7 d8 d9 d10 d11
        go_wp2
        simp only [List.append]
        go_region_held3 (fun w' => w'.cell? ⟨p1, o1 + i * 12, none⟩ = some (.int .i64 x.kind) ∧ w'.cell? ⟨p1, o1 + i * 12 + 1, none⟩ = some (.slice fx x.texts.length fX) ∧ w'.cell? ⟨p1, o1 + i * 12 + 2, none⟩ = some (.int .i64 x.test.kind) ∧ w'.cell? ⟨p1, o1 + i * 12 + 3, none⟩ = some (.int .i64 x.test.mat) ∧ w'.cell? ⟨p1, o1 + i * 12 + 4, none⟩ = some (.int .i64 x.test.part) ∧ w'.cell? ⟨p1, o1 + i * 12 + 5, none⟩ = some (.slice fn x.test.names.length fN) ∧ w'.cell? ⟨p1, o1 + i * 12 + 6, none⟩ = some (.slice fk x.test.keys.length fK) ∧ w'.cell? ⟨p1, o1 + i * 12 + 7, none⟩ = some (.bool x.test.over) ∧ w'.cell? ⟨p1, o1 + i * 12 + 8, none⟩ = some (.int .i64 x.test.limit) ∧ w'.cell? ⟨p1, o1 + i * 12 + 9, none⟩ = some (.slice ft x.test.tests.length fT) ∧ w'.cell? ⟨p1, o1 + i * 12 + 10, none⟩ = some (.slice fa x.thn.length fA) ∧ w'.cell? ⟨p1, o1 + i * 12 + 11, none⟩ = some (.slice fe x.els.length fE) ∧ w'.cell? ⟨p2, o2 + i * 12, none⟩ = some (.int .i64 x.kind) ∧ w'.cell? ⟨p2, o2 + i * 12 + 1, none⟩ = some (.slice gx x.texts.length gX) ∧ w'.cell? ⟨p2, o2 + i * 12 + 2, none⟩ = some (.int .i64 x.test.kind) ∧ w'.cell? ⟨p2, o2 + i * 12 + 3, none⟩ = some (.int .i64 x.test.mat) ∧ w'.cell? ⟨p2, o2 + i * 12 + 4, none⟩ = some (.int .i64 x.test.part) ∧ w'.cell? ⟨p2, o2 + i * 12 + 5, none⟩ = some (.slice gn x.test.names.length gN) ∧ w'.cell? ⟨p2, o2 + i * 12 + 6, none⟩ = some (.slice gk x.test.keys.length gK) ∧ w'.cell? ⟨p2, o2 + i * 12 + 7, none⟩ = some (.bool x.test.over) ∧ w'.cell? ⟨p2, o2 + i * 12 + 8, none⟩ = some (.int .i64 x.test.limit) ∧ w'.cell? ⟨p2, o2 + i * 12 + 9, none⟩ = some (.slice gt x.test.tests.length gT) ∧ w'.cell? ⟨p2, o2 + i * 12 + 10, none⟩ = some (.slice ga x.thn.length gA) ∧ w'.cell? ⟨p2, o2 + i * 12 + 11, none⟩ = some (.slice ge x.els.length gE)) (first | exact Q4.out | exact Q3.out | exact Q2.out | exact Q1.out | exact Q0.out)
          (first
             | (go_at_call 31
                refine (sameTX_any _ _ _ _ x.texts _ S1.out R1.out).mono ?_
                rintro e u1 ⟨rfl, hb1⟩
                have HU1 := hid hb1
                have Q1 := hid (Q0.out.next HU1.out)
                clear hb1)
             | (go_at_call 32
                refine (sameTst_any n x.test _ _ _ _ _ _ _ _ _ _ _ _ _ (S2.out.next HU1.out) (R2.out.next HU1.out)).mono ?_
                rintro e u2 ⟨rfl, hb2⟩
                have HU2 := hid (show Below wr.drew.heap.size wr.drew u2 from HU1.out.trans (hb2.mono HU1.out.size))
                have Q2 := hid (Q0.out.next HU2.out)
                clear hb2)
             | (go_at_call 18
                refine (HIH.out x.els _ _ _ _ _ (S4.out.next HU3.out) (R4.out.next HU3.out)).mono ?_
                rintro e u4 ⟨rfl, hb4⟩
                have HU4 := hid (show Below wr.drew.heap.size wr.drew u4 from HU3.out.trans (hb4.mono HU3.out.size))
                have Q4 := hid (Q0.out.next HU4.out)
                clear hb4)
             | (go_at_call 18
                refine (HIH.out x.thn _ _ _ _ _ (S3.out.next HU2.out) (R3.out.next HU2.out)).mono ?_
                rintro e u3 ⟨rfl, hb3⟩
                have HU3 := hid (show Below wr.drew.heap.size wr.drew u3 from HU2.out.trans (hb3.mono HU2.out.size))
                have Q3 := hid (Q0.out.next HU3.out)
                clear hb3))
        have HB3 := hid (show Below w.heap.size w u4 from HBr.out.drew.trans (HU4.out.mono HBr.out.drew.size))
        go_wp2
        go_roundw
        case rel => first | exact ⟨i + 1, by omega, by go_num, HB3⟩ | ((repeat apply Exists.intro); exact ⟨⟨i + 1, by omega, by go_num, HB3⟩, rfl⟩) | (refine ⟨trivial, ?_⟩; (repeat apply Exists.intro); exact ⟨⟨i + 1, by omega, by go_num, HB3⟩, rfl⟩)
        case measure => simp [intOf]; omega
      · have i1 : ¬ (i : Int) < (l.length : Int) := by omega
        go_wp2
        go_ret
        exact ⟨rfl, HBr.out⟩
end Go.Proofs.YtnjlakengbhokaaDoor
