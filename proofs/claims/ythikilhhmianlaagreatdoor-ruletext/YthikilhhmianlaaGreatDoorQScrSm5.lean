/-
  What postroomkeep's sameTexts, sameTest, sameCommands do with the same: the walks.
  What postroomkeep's sameCommands does with the same: the walk.
  Rows that a call owns, boxes: what no function is named in.
  What the laws' maker of scripts does: the walk.
  Raw scripts in memory: rows within rows; how an argument that is a slice of them is read.
  What the laws' picking of a number does: the walk.
-/
import Derived.Test.YthikilhhmianlaaGreatDoorScrCk
import Derived.Deep.RegionHeld3
import Derived.Deep.QuietTactic
import Derived.BigQuiet
import Derived.Test.YthikilhhmianlaaGreatDoorRowGen
import Derived.Test.YthikilhhmianlaaGreatDoorQTokLaws8
import Derived.Test.YthikilhhmianlaaGreatDoorScrW
import Derived.Test.YthikilhhmianlaaGreatDoorQPure4
import Derived.Test.YthikilhhmianlaaGreatDoorRows
import Derived.Deep.SlicePairs
import Derived.Lib.SmallJoins
import Derived.ChangeArms
import Derived.ProofKit
import Derived.OpenShut
namespace Go.Proofs.YthikilhhmianlaaGreatDoor
open Go.RowKit Go.Proofs
theorem jg7 {Q : Nat → Prop} {w : World} {a : Option Addr} {c : Nat} {l : List (List UInt8)} (h : TxtsM Q w (.slice a l.length c) l) {i : Nat} {x : List UInt8} (hx : l[i]? = some x) : ∃ b o, a = some ⟨b, o, none⟩ ∧ b < w.heap.size ∧ w.cell? ⟨b, o + i, none⟩ = some (.string (S x)) := by
  obtain ⟨a', c', hv, _, hr⟩ := h; simp only [Value.slice.injEq, true_and] at hv; obtain ⟨rfl, rfl⟩ := hv; obtain ⟨b, o, cs, ha, hb, _, _, hc, hP⟩ := hr i x hx; unfold TxtM at hP; subst hP; have := hc 0 _ rfl; exact ⟨b, o, ha, hb, by simpa using this⟩
set_option maxHeartbeats 4000000 in
theorem ja8 (a b : Option Addr) (c d : Nat) (ts : List (List UInt8)) (w : World) (hF : TxtsM anyB w (.slice a ts.length c) ts) (hG : TxtsM anyB w (.slice b ts.length d) ts) :
    Calls Tryz.prog 22 #[.slice a ts.length c, .slice b ts.length d] w fun e w' => e = .returned (.bool true) ∧ Below w.heap.size w w' := by
  have hm := hF.small; unfold maxLen at hm; have HF := hid hF; have HG := hid hG; clear hF hG; go_enter Tryz.func22, Tryz.ntmps22; go_wp2
  go_loopw [5] (fun i wr => ∃ k : Nat, k ≤ ts.length ∧ i = .int .i64 k ∧ ∃ q, wr = w.drewN q) (fun i _ => ts.length - (intOf i).toNat)
  case atStart => exact ⟨0, Nat.zero_le _, rfl, 0, rfl⟩
  case round =>
    obtain ⟨k, hk, rfl, q, rfl⟩ := hrel
    by_cases hlt : k < ts.length
    · obtain ⟨f, hf⟩ : ∃ f, ts[k]? = some f := ⟨_, List.getElem?_eq_getElem hlt⟩; obtain ⟨b1, o1, rfl, hb1, h1⟩ := jg7 HF.out hf; obtain ⟨b2, o2, rfl, hb2, h2⟩ := jg7 HG.out hf; clear hf; go_wp2
      go_quiet (fail)
      go_wp2
      go_roundw
      case rel => first | exact ⟨k + 1, by omega, by go_num, _, rfl⟩ | ((repeat apply Exists.intro); exact ⟨⟨k + 1, by omega, by go_num, _, rfl⟩, rfl⟩) | (refine ⟨trivial, ?_⟩; (repeat apply Exists.intro); exact ⟨⟨k + 1, by omega, by go_num, _, rfl⟩, rfl⟩)
      case measure => simp [intOf]; omega
    · go_wp2; go_ret; exact ⟨rfl, vN (Below.refl _ _) _⟩
def SamT (n : Nat) : Prop := ∀ (t : Tst) (w : World) (an ak at' bn bk bt : Option Addr) (cn ck ct dn dk dt : Nat), TstM anyB n w t [.int .i64 t.kind, .int .i64 t.mat, .int .i64 t.part, .slice an t.names.length cn, .slice ak t.keys.length ck, .bool t.over, .int .i64 t.limit, .slice at' t.tests.length ct] → TstM anyB n w t [.int .i64 t.kind, .int .i64 t.mat, .int .i64 t.part, .slice bn t.names.length dn, .slice bk t.keys.length dk, .bool t.over, .int .i64 t.limit, .slice bt t.tests.length dt] →
    Calls Tryz.prog 23 #[.agg #[.int .i64 t.kind, .int .i64 t.mat, .int .i64 t.part, .slice an t.names.length cn, .slice ak t.keys.length ck, .bool t.over, .int .i64 t.limit, .slice at' t.tests.length ct], .agg #[.int .i64 t.kind, .int .i64 t.mat, .int .i64 t.part, .slice bn t.names.length dn, .slice bk t.keys.length dk, .bool t.over, .int .i64 t.limit, .slice bt t.tests.length dt]] w fun e w' => e = .returned (.bool true) ∧ Below w.heap.size w w'
theorem jdP {n : Nat} {w : World} {t : Tst} {an ak at' : Option Addr} {cn ck ct : Nat} (h : TstM anyB (n + 1) w t [.int .i64 t.kind, .int .i64 t.mat, .int .i64 t.part, .slice an t.names.length cn, .slice ak t.keys.length ck, .bool t.over, .int .i64 t.limit, .slice at' t.tests.length ct]) :
    TxtsM anyB w (.slice an t.names.length cn) t.names ∧ TxtsM anyB w (.slice ak t.keys.length ck) t.keys ∧ TstsM anyB n w (.slice at' t.tests.length ct) t.tests := by
  obtain ⟨vn, vk, vt, he, h1, h2, h3⟩ := h; simp only [List.cons.injEq, true_and, and_true] at he; obtain ⟨rfl, rfl, rfl⟩ := he; exact ⟨h1, h2, h3⟩
theorem jbs {w : World} {b : Nat} {c0 c1 c2 c3 c4 c5 c6 c7 : Value} {t : TypeId} (h : w.heap[b]? = some (.cells #[c0, c1, c2, c3, c4, c5, c6, c7] t)) : w.cell? ⟨b, 0, none⟩ = some c0 ∧ w.cell? ⟨b, 1, none⟩ = some c1 ∧ w.cell? ⟨b, 2, none⟩ = some c2 ∧ w.cell? ⟨b, 3, none⟩ = some c3 ∧ w.cell? ⟨b, 4, none⟩ = some c4 ∧ w.cell? ⟨b, 5, none⟩ = some c5 ∧ w.cell? ⟨b, 6, none⟩ = some c6 ∧ w.cell? ⟨b, 7, none⟩ = some c7 := by
  refine ⟨?_, ?_, ?_, ?_, ?_, ?_, ?_, ?_⟩ <;> simp [World.cell?, h]
set_option maxHeartbeats 8000000 in
set_option maxRecDepth 100000 in
theorem jfe (n : Nat) : SamT n := by
  induction n with
  | zero => intro t w an ak at' bn bk bt cn ck ct dn dk dt h; exact h.elim
  | succ n ih =>
    intro t w an ak at' bn bk bt cn ck ct dn dk dt hA hB; obtain ⟨a1, a2, a3⟩ := jdP hA; obtain ⟨b1, b2, b3⟩ := jdP hB; have A1 := hid a1; have A2 := hid a2; have A3 := hid a3; have B1 := hid b1; have B2 := hid b2; have B3 := hid b3; have HIH := hid ih; have hmx := a3.small; unfold maxLen at hmx; clear hA hB a1 a2 a3 b1 b2 b3 ih; obtain ⟨W0, hW0⟩ : ∃ W0, W0 = (w.alloc (.cells #[.int .i64 t.kind, .int .i64 t.mat, .int .i64 t.part, .slice an t.names.length cn, .slice ak t.keys.length ck, .bool t.over, .int .i64 t.limit, .slice at' t.tests.length ct] 38)).alloc (.cells #[.int .i64 t.kind, .int .i64 t.mat, .int .i64 t.part, .slice bn t.names.length dn, .slice bk t.keys.length dk, .bool t.over, .int .i64 t.limit, .slice bt t.tests.length dt] 38) := ⟨_, rfl⟩; have hz1 : (w.alloc (.cells #[.int .i64 t.kind, .int .i64 t.mat, .int .i64 t.part, .slice an t.names.length cn, .slice ak t.keys.length ck, .bool t.over, .int .i64 t.limit, .slice at' t.tests.length ct] 38)).heap.size = w.heap.size + 1 := by simp
    have hB0 : Below w.heap.size w W0 := by rw [hW0]; exact ((Below.refl _ _).alloc (Nat.le_refl _) _).alloc (by simp) _
    have e4 : W0.heap[w.heap.size]? = some (.cells #[.int .i64 t.kind, .int .i64 t.mat, .int .i64 t.part, .slice an t.names.length cn, .slice ak t.keys.length ck, .bool t.over, .int .i64 t.limit, .slice at' t.tests.length ct] 38) := by
      rw [hW0]
      show (Array.push _ _)[w.heap.size]? = _
      rw [Array.getElem?_push_lt (by rw [hz1]; omega)]; rw [← Array.getElem?_eq_getElem]; exact heap_alloc_new w _
    have e5 : W0.heap[w.heap.size + 1]? = some (.cells #[.int .i64 t.kind, .int .i64 t.mat, .int .i64 t.part, .slice bn t.names.length dn, .slice bk t.keys.length dk, .bool t.over, .int .i64 t.limit, .slice bt t.tests.length dt] 38) := by
      rw [hW0, ← hz1]; exact heap_alloc_new _ _
    have HC := hid (show ∀ W : World, Below W0.heap.size W0 W → W.heap[w.heap.size]? = some (.cells #[.int .i64 t.kind, .int .i64 t.mat, .int .i64 t.part, .slice an t.names.length cn, .slice ak t.keys.length ck, .bool t.over, .int .i64 t.limit, .slice at' t.tests.length ct] 38) ∧ W.heap[w.heap.size + 1]? = some (.cells #[.int .i64 t.kind, .int .i64 t.mat, .int .i64 t.part, .slice bn t.names.length dn, .slice bk t.keys.length dk, .bool t.over, .int .i64 t.limit, .slice bt t.tests.length dt] 38) from
      fun W hb => ⟨(hb.block _ (Array.getElem?_eq_some_iff.1 e4).1).trans e4, (hb.block _ (Array.getElem?_eq_some_iff.1 e5).1).trans e5⟩)
    obtain ⟨g0, g1, g2, g3, g4, g5, g6, g7⟩ := jbs e4; obtain ⟨k0, k1, k2, k3, k4, k5, k6, k7⟩ := jbs e5; have HWE := hid hW0; have HB0 := hid hB0; clear hW0 hB0 e4 e5 hz1; go_enter Tryz.func23, Tryz.ntmps23; go_wp2_with fail; rw [← HWE.out]; refine (ja8 an bn cn dn t.names W0 (A1.out.next HB0.out) (B1.out.next HB0.out)).mono ?_; rintro e w1 ⟨rfl, hb1⟩; have HB1 := hid hb1; obtain ⟨e4, e5⟩ := HC.out w1 hb1; clear hb1 g0 g1 g2 g3 g4 g5 g6 g7 k0 k1 k2 k3 k4 k5 k6 k7; obtain ⟨g0, g1, g2, g3, g4, g5, g6, g7⟩ := jbs e4; obtain ⟨k0, k1, k2, k3, k4, k5, k6, k7⟩ := jbs e5; clear e4 e5; go_wp2_with fail; refine (ja8 ak bk ck dk t.keys w1 ((A2.out.next HB0.out).next HB1.out) ((B2.out.next HB0.out).next HB1.out)).mono ?_; rintro e w2 ⟨rfl, hb2⟩; have HB2 := hid (show Below W0.heap.size W0 w2 from HB1.out.trans (hb2.mono HB1.out.size)); obtain ⟨e4, e5⟩ := HC.out w2 HB2.out; clear hb2 g0 g1 g2 g3 g4 g5 g6 g7 k0 k1 k2 k3 k4 k5 k6 k7; obtain ⟨g0, g1, g2, g3, g4, g5, g6, g7⟩ := jbs e4; obtain ⟨k0, k1, k2, k3, k4, k5, k6, k7⟩ := jbs e5; clear e4 e5; go_wp2; clear g0 g1 g2 g3 g4 g5 g6 g7 k0 k1 k2 k3 k4 k5 k6 k7
    go_loopw [5] (fun i wr => ∃ k : Nat, k ≤ t.tests.length ∧ i = .int .i64 k ∧ Hid (Below W0.heap.size W0 wr)) (fun i _ => t.tests.length - (intOf i).toNat)
    case atStart => exact ⟨0, Nat.zero_le _, rfl, HB2⟩
    case round =>
      obtain ⟨i, hk, rfl, HBr⟩ := hrel; obtain ⟨e4, e5⟩ := HC.out wr HBr.out; have g7 := (jbs e4).2.2.2.2.2.2.2; have k7 := (jbs e5).2.2.2.2.2.2.2; clear e4 e5
      by_cases hlt : i < t.tests.length
      · have i1 : (i : Int) < (t.tests.length : Int) := by omega
        have i3 : (0 : Int) ≤ (i : Int) := by omega
        obtain ⟨x, hx⟩ : ∃ x, t.tests[i]? = some x := ⟨_, List.getElem?_eq_getElem hlt⟩; obtain ⟨p1, o1, xn, yn, xk, yk, xt, yt, rfl, hp1, c0, c1, c2, c3, c4, c5, c6, c7, hT1⟩ := jcg ((A3.out.next HB0.out).next HBr.out) hx; obtain ⟨p2, o2, un, vn, uk, vk, ut, vt, rfl, hp2, d0, d1, d2, d3, d4, d5, d6, d7, hT2⟩ := jcg ((B3.out.next HB0.out).next HBr.out) hx; have HT1 := hid (hT1.next (Below.refl _ wr).drew); have HT2 := hid (hT2.next (Below.refl _ wr).drew); clear hx hT1 hT2; go_wp2
        go_region_held3 (fun w' => w'.cell? ⟨w.heap.size, 7, none⟩ = some (.slice (some ⟨p1, o1, none⟩) t.tests.length ct) ∧ w'.cell? ⟨w.heap.size + 1, 7, none⟩ = some (.slice (some ⟨p2, o2, none⟩) t.tests.length dt) ∧ w'.cell? ⟨p1, o1 + i * 8, none⟩ = some (.int .i64 x.kind) ∧ w'.cell? ⟨p1, o1 + i * 8 + 1, none⟩ = some (.int .i64 x.mat) ∧ w'.cell? ⟨p1, o1 + i * 8 + 2, none⟩ = some (.int .i64 x.part) ∧ w'.cell? ⟨p1, o1 + i * 8 + 3, none⟩ = some (.slice xn x.names.length yn) ∧ w'.cell? ⟨p1, o1 + i * 8 + 4, none⟩ = some (.slice xk x.keys.length yk) ∧ w'.cell? ⟨p1, o1 + i * 8 + 5, none⟩ = some (.bool x.over) ∧ w'.cell? ⟨p1, o1 + i * 8 + 6, none⟩ = some (.int .i64 x.limit) ∧ w'.cell? ⟨p1, o1 + i * 8 + 7, none⟩ = some (.slice xt x.tests.length yt) ∧ w'.cell? ⟨p2, o2 + i * 8, none⟩ = some (.int .i64 x.kind) ∧ w'.cell? ⟨p2, o2 + i * 8 + 1, none⟩ = some (.int .i64 x.mat) ∧ w'.cell? ⟨p2, o2 + i * 8 + 2, none⟩ = some (.int .i64 x.part) ∧ w'.cell? ⟨p2, o2 + i * 8 + 3, none⟩ = some (.slice un x.names.length vn) ∧ w'.cell? ⟨p2, o2 + i * 8 + 4, none⟩ = some (.slice uk x.keys.length vk) ∧ w'.cell? ⟨p2, o2 + i * 8 + 5, none⟩ = some (.bool x.over) ∧ w'.cell? ⟨p2, o2 + i * 8 + 6, none⟩ = some (.int .i64 x.limit) ∧ w'.cell? ⟨p2, o2 + i * 8 + 7, none⟩ = some (.slice ut x.tests.length vt)) (go_keep)
          (first
             | (go_at_call 23
                refine (HIH.out x _ _ _ _ _ _ _ _ _ _ _ _ _ HT1.out HT2.out).mono ?_; rintro e u2 ⟨rfl, hb⟩; have q0 : u2.cell? ⟨w.heap.size, 7, none⟩ = some (.slice (some ⟨p1, o1, none⟩) t.tests.length ct) := jb (w := wr.drew) g7 hb; have q1 : u2.cell? ⟨w.heap.size + 1, 7, none⟩ = some (.slice (some ⟨p2, o2, none⟩) t.tests.length dt) := jb (w := wr.drew) k7 hb; have q2 : u2.cell? ⟨p1, o1 + i * 8, none⟩ = some (.int .i64 x.kind) := jb (w := wr.drew) c0 hb; have q3 : u2.cell? ⟨p1, o1 + i * 8 + 1, none⟩ = some (.int .i64 x.mat) := jb (w := wr.drew) c1 hb; have q4 : u2.cell? ⟨p1, o1 + i * 8 + 2, none⟩ = some (.int .i64 x.part) := jb (w := wr.drew) c2 hb; have q5 : u2.cell? ⟨p1, o1 + i * 8 + 3, none⟩ = some (.slice xn x.names.length yn) := jb (w := wr.drew) c3 hb; have q6 : u2.cell? ⟨p1, o1 + i * 8 + 4, none⟩ = some (.slice xk x.keys.length yk) := jb (w := wr.drew) c4 hb; have q7 : u2.cell? ⟨p1, o1 + i * 8 + 5, none⟩ = some (.bool x.over) := jb (w := wr.drew) c5 hb; have q8 : u2.cell? ⟨p1, o1 + i * 8 + 6, none⟩ = some (.int .i64 x.limit) := jb (w := wr.drew) c6 hb; have q9 : u2.cell? ⟨p1, o1 + i * 8 + 7, none⟩ = some (.slice xt x.tests.length yt) := jb (w := wr.drew) c7 hb; have q10 : u2.cell? ⟨p2, o2 + i * 8, none⟩ = some (.int .i64 x.kind) := jb (w := wr.drew) d0 hb; have q11 : u2.cell? ⟨p2, o2 + i * 8 + 1, none⟩ = some (.int .i64 x.mat) := jb (w := wr.drew) d1 hb; have q12 : u2.cell? ⟨p2, o2 + i * 8 + 2, none⟩ = some (.int .i64 x.part) := jb (w := wr.drew) d2 hb; have q13 : u2.cell? ⟨p2, o2 + i * 8 + 3, none⟩ = some (.slice un x.names.length vn) := jb (w := wr.drew) d3 hb; have q14 : u2.cell? ⟨p2, o2 + i * 8 + 4, none⟩ = some (.slice uk x.keys.length vk) := jb (w := wr.drew) d4 hb; have q15 : u2.cell? ⟨p2, o2 + i * 8 + 5, none⟩ = some (.bool x.over) := jb (w := wr.drew) d5 hb; have q16 : u2.cell? ⟨p2, o2 + i * 8 + 6, none⟩ = some (.int .i64 x.limit) := jb (w := wr.drew) d6 hb; have q17 : u2.cell? ⟨p2, o2 + i * 8 + 7, none⟩ = some (.slice ut x.tests.length vt) := jb (w := wr.drew) d7 hb))
        have HB3 := hid (show Below W0.heap.size W0 u2 from HBr.out.drew.trans (hb.mono HBr.out.drew.size)); clear hb; go_wp2
        go_roundw
        case rel => first | exact ⟨i + 1, by omega, by go_num, HB3⟩ | ((repeat apply Exists.intro); exact ⟨⟨i + 1, by omega, by go_num, HB3⟩, rfl⟩) | (refine ⟨trivial, ?_⟩; (repeat apply Exists.intro); exact ⟨⟨i + 1, by omega, by go_num, HB3⟩, rfl⟩)
        case measure => simp [intOf]; omega
      · have i1 : ¬ (i : Int) < (t.tests.length : Int) := by omega
        go_wp2; go_ret; exact ⟨rfl, HB0.out.trans (HBr.out.mono HB0.out.size)⟩
end Go.Proofs.YthikilhhmianlaaGreatDoor
namespace Go.Proofs.YthikilhhmianlaaGreatDoor
open Go.RowKit Go.Proofs
theorem jcz {n : Nat} {w : World} {c : Cmd} {ax an ak at' aa ae : Option Addr} {cx cn ck ct ca ce : Nat} (h : CmdM anyB (n + 1) w c [.int .i64 c.kind, .slice ax c.texts.length cx, .int .i64 c.test.kind, .int .i64 c.test.mat, .int .i64 c.test.part, .slice an c.test.names.length cn, .slice ak c.test.keys.length ck, .bool c.test.over, .int .i64 c.test.limit, .slice at' c.test.tests.length ct, .slice aa c.thn.length ca, .slice ae c.els.length ce]) :
    TxtsM anyB w (.slice ax c.texts.length cx) c.texts ∧ TstM anyB n w c.test [.int .i64 c.test.kind, .int .i64 c.test.mat, .int .i64 c.test.part, .slice an c.test.names.length cn, .slice ak c.test.keys.length ck, .bool c.test.over, .int .i64 c.test.limit, .slice at' c.test.tests.length ct] ∧ CmdsM anyB n w (.slice aa c.thn.length ca) c.thn ∧ CmdsM anyB n w (.slice ae c.els.length ce) c.els := by
  obtain ⟨vx, vn, vk, vt, va, ve, he, h1, h2, h3, h4⟩ := h; simp only [List.cons.injEq, true_and, and_true] at he; obtain ⟨rfl, rfl, rfl, rfl, rfl, rfl⟩ := he; exact ⟨h1, h2, h3, h4⟩
def SS (p1 o1 p2 o2 i : Nat) (x : Cmd) (fx fn fk ft fa fe gx gn gk gt ga ge : Option Addr) (fX fN fK fT fA fE gX gN gK gT gA gE : Nat) (w' : World) : Prop := w'.cell? ⟨p1, o1 + i * 12, none⟩ = some (.int .i64 x.kind) ∧ w'.cell? ⟨p1, o1 + i * 12 + 1, none⟩ = some (.slice fx x.texts.length fX) ∧ w'.cell? ⟨p1, o1 + i * 12 + 2, none⟩ = some (.int .i64 x.test.kind) ∧ w'.cell? ⟨p1, o1 + i * 12 + 3, none⟩ = some (.int .i64 x.test.mat) ∧ w'.cell? ⟨p1, o1 + i * 12 + 4, none⟩ = some (.int .i64 x.test.part) ∧ w'.cell? ⟨p1, o1 + i * 12 + 5, none⟩ = some (.slice fn x.test.names.length fN) ∧ w'.cell? ⟨p1, o1 + i * 12 + 6, none⟩ = some (.slice fk x.test.keys.length fK) ∧ w'.cell? ⟨p1, o1 + i * 12 + 7, none⟩ = some (.bool x.test.over) ∧ w'.cell? ⟨p1, o1 + i * 12 + 8, none⟩ = some (.int .i64 x.test.limit) ∧ w'.cell? ⟨p1, o1 + i * 12 + 9, none⟩ = some (.slice ft x.test.tests.length fT) ∧ w'.cell? ⟨p1, o1 + i * 12 + 10, none⟩ = some (.slice fa x.thn.length fA) ∧ w'.cell? ⟨p1, o1 + i * 12 + 11, none⟩ = some (.slice fe x.els.length fE) ∧ w'.cell? ⟨p2, o2 + i * 12, none⟩ = some (.int .i64 x.kind) ∧ w'.cell? ⟨p2, o2 + i * 12 + 1, none⟩ = some (.slice gx x.texts.length gX) ∧ w'.cell? ⟨p2, o2 + i * 12 + 2, none⟩ = some (.int .i64 x.test.kind) ∧ w'.cell? ⟨p2, o2 + i * 12 + 3, none⟩ = some (.int .i64 x.test.mat) ∧ w'.cell? ⟨p2, o2 + i * 12 + 4, none⟩ = some (.int .i64 x.test.part) ∧ w'.cell? ⟨p2, o2 + i * 12 + 5, none⟩ = some (.slice gn x.test.names.length gN) ∧ w'.cell? ⟨p2, o2 + i * 12 + 6, none⟩ = some (.slice gk x.test.keys.length gK) ∧ w'.cell? ⟨p2, o2 + i * 12 + 7, none⟩ = some (.bool x.test.over) ∧ w'.cell? ⟨p2, o2 + i * 12 + 8, none⟩ = some (.int .i64 x.test.limit) ∧ w'.cell? ⟨p2, o2 + i * 12 + 9, none⟩ = some (.slice gt x.test.tests.length gT) ∧ w'.cell? ⟨p2, o2 + i * 12 + 10, none⟩ = some (.slice ga x.thn.length gA) ∧ w'.cell? ⟨p2, o2 + i * 12 + 11, none⟩ = some (.slice ge x.els.length gE)
theorem SS.next {p1 o1 p2 o2 i : Nat} {x : Cmd} {fx fn fk ft fa fe gx gn gk gt ga ge : Option Addr} {fX fN fK fT fA fE gX gN gK gT gA gE : Nat} {w w' : World} (h : SS p1 o1 p2 o2 i x fx fn fk ft fa fe gx gn gk gt ga ge fX fN fK fT fA fE gX gN gK gT gA gE w) (hb : Below w.heap.size w w') : SS p1 o1 p2 o2 i x fx fn fk ft fa fe gx gn gk gt ga ge fX fN fK fT fA fE gX gN gK gT gA gE w' := by
  obtain ⟨h0, h1, h2, h3, h4, h5, h6, h7, h8, h9, h10, h11, h12, h13, h14, h15, h16, h17, h18, h19, h20, h21, h22, h23⟩ := h; exact ⟨jb h0 hb, jb h1 hb, jb h2 hb, jb h3 hb, jb h4 hb, jb h5 hb, jb h6 hb, jb h7 hb, jb h8 hb, jb h9 hb, jb h10 hb, jb h11 hb, jb h12 hb, jb h13 hb, jb h14 hb, jb h15 hb, jb h16 hb, jb h17 hb, jb h18 hb, jb h19 hb, jb h20 hb, jb h21 hb, jb h22 hb, jb h23 hb⟩
def SamC (n : Nat) : Prop := ∀ (l : List Cmd) (w : World) (a b : Option Addr) (c d : Nat), CmdsM anyB n w (.slice a l.length c) l → CmdsM anyB n w (.slice b l.length d) l →
    Calls Tryz.prog 8 #[.slice a l.length c, .slice b l.length d] w fun e w' => e = .returned (.bool true) ∧ Below w.heap.size w w'
set_option maxHeartbeats 8000000 in
set_option maxRecDepth 100000 in
theorem jeR (n : Nat) : SamC n := by
  induction n with
  | zero =>
    intro l w a b c d hA hB; have hl : l = [] := by
      cases l with
      | nil => rfl
      | cons x l =>
        exfalso
        obtain ⟨_, _, _, _, hr⟩ := hA; obtain ⟨_, _, _, _, _, _, _, _, hP⟩ := hr 0 x rfl; exact hP
    subst hl; clear hA hB; go_enter Tryz.func8, Tryz.ntmps8; go_wp2
    go_loopw [5] (fun i wr => i = .int .i64 0 ∧ wr = w) (fun _ _ => 0)
    case atStart => exact ⟨rfl, rfl⟩
    case round =>
      obtain ⟨rfl, rfl⟩ := hrel; go_wp2; go_ret; exact ⟨rfl, Below.refl _ _⟩
  | succ n ih =>
    intro l w a b c d hA hB; have HA := hid hA; have HB := hid hB; have HIH := hid ih; have hmx := hA.small; unfold maxLen at hmx; clear hA hB ih; go_enter Tryz.func8, Tryz.ntmps8; go_wp2
    go_loopw [5] (fun i wr => ∃ k : Nat, k ≤ l.length ∧ i = .int .i64 k ∧ Hid (Below w.heap.size w wr)) (fun i _ => l.length - (intOf i).toNat)
    case atStart => exact ⟨0, Nat.zero_le _, rfl, Below.refl _ _⟩
    case round =>
      obtain ⟨i, hk, rfl, HBr⟩ := hrel
      by_cases hlt : i < l.length
      · have i1 : (i : Int) < (l.length : Int) := by omega
        have i3 : (0 : Int) ≤ (i : Int) := by omega
        obtain ⟨x, hx⟩ : ∃ x, l[i]? = some x := ⟨_, List.getElem?_eq_getElem hlt⟩; obtain ⟨p1, o1, fx, fX, fn, fN, fk, fK, ft, fT, fa, fA, fe, fE, rfl, hp1, c0, c1, c2, c3, c4, c5, c6, c7, c8, c9, c10, c11, hT1⟩ := vH (HA.out.next HBr.out) hx; obtain ⟨p2, o2, gx, gX, gn, gN, gk, gK, gt, gT, ga, gA, ge, gE, rfl, hp2, d0, d1, d2, d3, d4, d5, d6, d7, d8, d9, d10, d11, hT2⟩ := vH (HB.out.next HBr.out) hx; obtain ⟨s1, s2, s3, s4⟩ := jcz hT1; obtain ⟨r1, r2, r3, r4⟩ := jcz hT2; have hdr : Below wr.heap.size wr wr.drew := (Below.refl _ wr).drew; have S1 := hid (s1.next hdr); have S2 := hid (s2.next hdr); have S3 := hid (s3.next hdr); have S4 := hid (s4.next hdr); have R1 := hid (r1.next hdr); have R2 := hid (r2.next hdr); have R3 := hid (r3.next hdr); have R4 := hid (r4.next hdr); have Q0 := hid (show SS p1 o1 p2 o2 i x fx fn fk ft fa fe gx gn gk gt ga ge fX fN fK fT fA fE gX gN gK gT gA gE wr.drew from ⟨c0, c1, c2, c3, c4, c5, c6, c7, c8, c9, c10, c11, d0, d1, d2, d3, d4, d5, d6, d7, d8, d9, d10, d11⟩); clear hx hT1 hT2 s1 s2 s3 s4 r1 r2 r3 r4 hdr c0 c1 c2 c3 c4 c5 c6 c7 c8 c9 c10 c11 d0 d1 d2 d3 d4 d5 d6 d7 d8 d9 d10 d11; go_wp2; simp only [List.append]
        go_region_held3 (fun w' => w'.cell? ⟨p1, o1 + i * 12, none⟩ = some (.int .i64 x.kind) ∧ w'.cell? ⟨p1, o1 + i * 12 + 1, none⟩ = some (.slice fx x.texts.length fX) ∧ w'.cell? ⟨p1, o1 + i * 12 + 2, none⟩ = some (.int .i64 x.test.kind) ∧ w'.cell? ⟨p1, o1 + i * 12 + 3, none⟩ = some (.int .i64 x.test.mat) ∧ w'.cell? ⟨p1, o1 + i * 12 + 4, none⟩ = some (.int .i64 x.test.part) ∧ w'.cell? ⟨p1, o1 + i * 12 + 5, none⟩ = some (.slice fn x.test.names.length fN) ∧ w'.cell? ⟨p1, o1 + i * 12 + 6, none⟩ = some (.slice fk x.test.keys.length fK) ∧ w'.cell? ⟨p1, o1 + i * 12 + 7, none⟩ = some (.bool x.test.over) ∧ w'.cell? ⟨p1, o1 + i * 12 + 8, none⟩ = some (.int .i64 x.test.limit) ∧ w'.cell? ⟨p1, o1 + i * 12 + 9, none⟩ = some (.slice ft x.test.tests.length fT) ∧ w'.cell? ⟨p1, o1 + i * 12 + 10, none⟩ = some (.slice fa x.thn.length fA) ∧ w'.cell? ⟨p1, o1 + i * 12 + 11, none⟩ = some (.slice fe x.els.length fE) ∧ w'.cell? ⟨p2, o2 + i * 12, none⟩ = some (.int .i64 x.kind) ∧ w'.cell? ⟨p2, o2 + i * 12 + 1, none⟩ = some (.slice gx x.texts.length gX) ∧ w'.cell? ⟨p2, o2 + i * 12 + 2, none⟩ = some (.int .i64 x.test.kind) ∧ w'.cell? ⟨p2, o2 + i * 12 + 3, none⟩ = some (.int .i64 x.test.mat) ∧ w'.cell? ⟨p2, o2 + i * 12 + 4, none⟩ = some (.int .i64 x.test.part) ∧ w'.cell? ⟨p2, o2 + i * 12 + 5, none⟩ = some (.slice gn x.test.names.length gN) ∧ w'.cell? ⟨p2, o2 + i * 12 + 6, none⟩ = some (.slice gk x.test.keys.length gK) ∧ w'.cell? ⟨p2, o2 + i * 12 + 7, none⟩ = some (.bool x.test.over) ∧ w'.cell? ⟨p2, o2 + i * 12 + 8, none⟩ = some (.int .i64 x.test.limit) ∧ w'.cell? ⟨p2, o2 + i * 12 + 9, none⟩ = some (.slice gt x.test.tests.length gT) ∧ w'.cell? ⟨p2, o2 + i * 12 + 10, none⟩ = some (.slice ga x.thn.length gA) ∧ w'.cell? ⟨p2, o2 + i * 12 + 11, none⟩ = some (.slice ge x.els.length gE)) (first | exact Q4.out | exact Q3.out | exact Q2.out | exact Q1.out | exact Q0.out)
          (first
             | (go_at_call 22
                refine (ja8 _ _ _ _ x.texts _ S1.out R1.out).mono ?_; rintro e u1 ⟨rfl, hb1⟩; have HU1 := hid hb1; have Q1 := hid (Q0.out.next HU1.out); clear hb1)
             | (go_at_call 23
                refine (jfe n x.test _ _ _ _ _ _ _ _ _ _ _ _ _ (S2.out.next HU1.out) (R2.out.next HU1.out)).mono ?_; rintro e u2 ⟨rfl, hb2⟩; have HU2 := hid (show Below wr.drew.heap.size wr.drew u2 from HU1.out.trans (hb2.mono HU1.out.size)); have Q2 := hid (Q0.out.next HU2.out); clear hb2)
             | (go_at_call 8
                refine (HIH.out x.els _ _ _ _ _ (S4.out.next HU3.out) (R4.out.next HU3.out)).mono ?_; rintro e u4 ⟨rfl, hb4⟩; have HU4 := hid (show Below wr.drew.heap.size wr.drew u4 from HU3.out.trans (hb4.mono HU3.out.size)); have Q4 := hid (Q0.out.next HU4.out); clear hb4)
             | (go_at_call 8
                refine (HIH.out x.thn _ _ _ _ _ (S3.out.next HU2.out) (R3.out.next HU2.out)).mono ?_; rintro e u3 ⟨rfl, hb3⟩; have HU3 := hid (show Below wr.drew.heap.size wr.drew u3 from HU2.out.trans (hb3.mono HU2.out.size)); have Q3 := hid (Q0.out.next HU3.out); clear hb3))
        have HB3 := hid (show Below w.heap.size w u4 from HBr.out.drew.trans (HU4.out.mono HBr.out.drew.size)); go_wp2
        go_roundw
        case rel => first | exact ⟨i + 1, by omega, by go_num, HB3⟩ | ((repeat apply Exists.intro); exact ⟨⟨i + 1, by omega, by go_num, HB3⟩, rfl⟩) | (refine ⟨trivial, ?_⟩; (repeat apply Exists.intro); exact ⟨⟨i + 1, by omega, by go_num, HB3⟩, rfl⟩)
        case measure => simp [intOf]; omega
      · have i1 : ¬ (i : Int) < (l.length : Int) := by omega
        go_wp2; go_ret; exact ⟨rfl, HBr.out⟩
end Go.Proofs.YthikilhhmianlaaGreatDoor
namespace Go.Proofs.YthikilhhmianlaaGreatDoor
open Go.RowKit Go.Proofs
theorem OwnRow.next' {A : Type} {B k : Nat} {ty : TypeId} {P : (Nat → Prop) → World → A → List Value → Prop} (hP : Firm P) {w w' : World} {v : Value} {l : List A} (h : OwnRow B k ty P w v l) (hb : Below w.heap.size w w') : OwnRow B k ty P w' v l := by
  obtain ⟨css, h1, h2, h3, h4⟩ := h; exact ⟨css, vu h1 hb, h2, h3, fun i x cs hx hc => hP _ _ _ _ _ _ (fun b hq => ⟨hq.1, Nat.lt_of_lt_of_le hq.2.1 hb.size, hq.2.2⟩) (Keeps.of_below hb) (h4 i x cs hx hc)⟩
theorem jM {w : World} {b j : Nat} {cs : Array Value} {t : TypeId} {fr : Nat × Nat} {v : Value} (h : w.heap[b]? = some (.cells cs t fr)) (hj : cs[j]? = some v) : w.cell? ⟨b, j, none⟩ = some v := by simp [World.cell?, h, hj]
theorem jX {w : World} {b : Nat} {cs : Array Value} {t : TypeId} (h : w.heap[b]? = some (.cells cs t)) (o : Nat) : w.frozen? ⟨b, o, none⟩ = false := by simp [World.frozen?, h]
theorem zh {w w' : World} {r : Option Nat} (h : w.grownBy w' r) {b : Nat} {x : Obj} (hb : w.heap[b]? = some x) (hr : some b ≠ r) : w'.heap[b]? = some x :=
  (h.block b (Array.getElem?_eq_some_iff.1 hb).1 hr).trans hb
theorem box8 {w : World} {b : Nat} {v0 v1 v2 v3 v4 v5 v6 v7 : Value} {t : TypeId} (h : w.heap[b]? = some (.cells #[v0, v1, v2, v3, v4, v5, v6, v7] t)) :
    w.cell? ⟨b, 0, none⟩ = some v0 ∧ w.cell? ⟨b, 1, none⟩ = some v1 ∧ w.cell? ⟨b, 2, none⟩ = some v2 ∧ w.cell? ⟨b, 3, none⟩ = some v3 ∧ w.cell? ⟨b, 4, none⟩ = some v4 ∧ w.cell? ⟨b, 5, none⟩ = some v5 ∧ w.cell? ⟨b, 6, none⟩ = some v6 ∧ w.cell? ⟨b, 7, none⟩ = some v7 ∧
    w.frozen? ⟨b, 0, none⟩ = false ∧ w.frozen? ⟨b, 1, none⟩ = false ∧ w.frozen? ⟨b, 2, none⟩ = false ∧ w.frozen? ⟨b, 3, none⟩ = false ∧ w.frozen? ⟨b, 4, none⟩ = false ∧ w.frozen? ⟨b, 5, none⟩ = false ∧ w.frozen? ⟨b, 6, none⟩ = false ∧ w.frozen? ⟨b, 7, none⟩ = false :=
  ⟨jM h rfl, jM h rfl, jM h rfl, jM h rfl, jM h rfl, jM h rfl, jM h rfl, jM h rfl, jX h 0, jX h 1, jX h 2, jX h 3, jX h 4, jX h 5, jX h 6, jX h 7⟩
theorem jo {w : World} {b j c i : Nat} {v u : Value} (h : w.cell? ⟨c, i, none⟩ = some u) (hne : c ≠ b) : (w.setCell ⟨b, j, none⟩ v).cell? ⟨c, i, none⟩ = some u :=
  (World.cell?_setCell_other w _ _ _ (fun e => hne (by cases e; rfl))).trans h
end Go.Proofs.YthikilhhmianlaaGreatDoor
namespace Go.Proofs.YthikilhhmianlaaGreatDoor
open Go.RowKit Go.Proofs
def reqV : Array Value := #[.string ⟨#[102, 105, 108, 101, 105, 110, 116, 111]⟩, .string ⟨#[114, 101, 106, 101, 99, 116]⟩, .string ⟨#[101, 110, 118, 101, 108, 111, 112, 101]⟩, .string ⟨#[105, 109, 97, 112, 52, 102, 108, 97, 103, 115]⟩]
theorem jiE {Q : Nat → Prop} {w : World} {p : Nat} {t : TypeId} (h : w.heap[p]? = some (.cells reqV t)) (hQ : Q p) : TxtsM Q w (.slice (some ⟨p, 0, none⟩) 4 4) reqT := by
  refine ⟨some ⟨p, 0, none⟩, 4, rfl, by unfold maxLen reqT; simp, fun i x hx => ?_⟩; have hi : i < 4 := (List.getElem?_eq_some_iff.1 hx).1; refine ⟨p, 0, [.string (S x)], rfl, (Array.getElem?_eq_some_iff.1 h).1, hQ, rfl, fun j u hj => ?_, rfl⟩; cases j with
  | succ j => simp at hj
  | zero =>
    simp at hj
    subst hj; rw [Nat.zero_add, Nat.mul_one, Nat.add_zero, jc h]
    match i, hi with
    | 0, _ | 1, _ | 2, _ | 3, _ => cases hx; rfl
theorem jkB (w : World) (o0 o1 : Obj) : ((w.alloc o0).alloc o1).heap[w.heap.size + 1]? = some o1 := by
  have h1 : (w.alloc o0).heap.size = w.heap.size + 1 := by simp
  rw [← h1]; exact heap_alloc_new _ o1
set_option maxHeartbeats 4000000 in
set_option maxRecDepth 100000 in
theorem jdV (w : World) : Calls Tryz.prog 9 #[] w fun e w' => ∃ v, e = .returned v ∧ CmdR (newB w.heap.size) 2 reqC w' v ∧ Below w.heap.size w w' := by
  go_enter Tryz.func9, Tryz.ntmps9; go_wp2; refine bodyPost_ret (v := .agg #[.int .i64 1, .slice (some ⟨w.heap.size + 1, 0, none⟩) 4 4, .int .i64 0, .int .i64 0, .int .i64 0, .slice none 0 0, .slice none 0 0, .bool false, .int .i64 0, .slice none 0 0, .slice none 0 0, .slice none 0 0]) (by simp [results, Tryz.results9, go_sem]) rfl ?_; refine ⟨_, rfl, ⟨[.int .i64 1, .slice (some ⟨w.heap.size + 1, 0, none⟩) 4 4, .int .i64 0, .int .i64 0, .int .i64 0, .slice none 0 0, .slice none 0 0, .bool false, .int .i64 0, .slice none 0 0, .slice none 0 0, .slice none 0 0], rfl, ⟨_, _, _, _, _, _, rfl, ?_, qT _ _ _, jg _ _ _ _ _ _, jg _ _ _ _ _ _⟩⟩, ?_⟩
  · exact jiE (t := 9) (jkB w _ _) (show w.heap.size ≤ w.heap.size + 1 by omega)
  · exact ((Below.refl _ _).alloc (Nat.le_refl _) _).alloc (by simp) _
end Go.Proofs.YthikilhhmianlaaGreatDoor
namespace Go.Proofs.YthikilhhmianlaaGreatDoor
open Go.RowKit Go.Deep Go.Joins Go.ChangeShapes Go.WideShapes
structure Stk where
  kind : Int
  a : Int
  b : Int
  s : List UInt8
  t : List UInt8
  ins : List Stk
def StkM : Nat → World → Stk → List Value → Prop
  | 0, _, _, _ => False
  | n + 1, w, x, cs => ∃ ai ci, cs = [.int .i64 x.kind, .int .i64 x.a, .int .i64 x.b, .string (S x.s), .string (S x.t), .slice ai x.ins.length ci] ∧ (Lit.int .i64 x.kind).wf = true ∧ (Lit.int .i64 x.a).wf = true ∧ (Lit.int .i64 x.b).wf = true ∧
      x.s.length ≤ maxLen ∧ x.t.length ≤ maxLen ∧ x.ins.length ≤ ci ∧ (ci ≤ maxLen ∧ x.ins.length ≤ 140737488355328) ∧ RowM anyB 6 (StkM n w) w (.slice ai x.ins.length ci) x.ins
abbrev SticksM (n : Nat) (w : World) (v : Value) (l : List Stk) : Prop := RowM anyB 6 (StkM n w) w v l
theorem StkM.imp {w w' : World} (hk : Keeps anyB w w') : ∀ (n : Nat) (x : Stk) (cs : List Value), StkM n w x cs → StkM n w' x cs := by
  intro n
  induction n with
  | zero => intro x cs h; exact h
  | succ n ih =>
    intro x cs h; obtain ⟨ai, ci, h0, h1, h2, h3, h4, h5, h6, h7, h8⟩ := h; exact ⟨ai, ci, h0, h1, h2, h3, h4, h5, h6, h7, RowM.imp h8 (fun _ h => h) hk ih⟩
theorem StkM.more {w : World} : ∀ (n m : Nat) (x : Stk) (cs : List Value), n ≤ m → StkM n w x cs → StkM m w x cs := by
  intro n
  induction n with
  | zero => intro m x cs _ h; exact h.elim
  | succ n ih =>
    intro m x cs hm h; obtain ⟨ai, ci, h0, h1, h2, h3, h4, h5, h6, h7, h8⟩ := h; cases m with
    | zero => omega
    | succ m => exact ⟨ai, ci, h0, h1, h2, h3, h4, h5, h6, h7, RowM.imp h8 (fun _ h => h) (Keeps.refl _ _) fun x cs h => ih m x cs (by omega) h⟩
theorem StkM.next {n : Nat} {w w' : World} {x : Stk} {cs : List Value} (h : StkM n w x cs) (hb : Below w.heap.size w w') : StkM n w' x cs := StkM.imp (Keeps.of_below hb) _ _ _ h
theorem SticksM.next {n : Nat} {w w' : World} {v : Value} {l : List Stk} (h : SticksM n w v l) (hb : Below w.heap.size w w') : SticksM n w' v l := RowM.imp h (fun _ h => h) (Keeps.of_below hb) fun _ _ h => StkM.next h hb
theorem jav {H : Type} {P : Program} {e : TypeId} {m : Nat} : ∀ {l : List (DataW H)} {d : DataW H}, d ∈ l → m ∈ d.weights P e → m ∈ DataW.weightsAll P e l := by
  intro l
  induction l with
  | nil => intro d h; cases h
  | cons x l ih =>
    intro d h hm; unfold DataW.weightsAll
    rcases List.mem_cons.1 h with e | e
    · subst e; exact List.mem_append_left _ hm
    · exact List.mem_append_right _ (ih e hm)
set_option maxRecDepth 100000 in
theorem jjl {H : Type} {enc : TypeId × Value → H} {w : World} {base : Nat} {spare : Nat → Bool} {held : Bool} : ∀ (N fuel : Nat) (cs : List Value) (x : DataW H × List MemPlace), fuel ≤ N → (∀ m ∈ x.1.weights Tryz.prog 68, m ≤ reachBytes) →
    DataW.trod enc Tryz.prog w base spare held fuel 68 cs = some x → ∃ k : Stk, StkM (N + 1) w k cs := by
  have hC : Tryz.prog.cellsOf 68 = 6 := by kernel_rfl
  have ci : Tryz.prog.cellsOf 3 = 1 := by kernel_rfl
  have cs' : Tryz.prog.cellsOf 9 = 1 := by kernel_rfl
  have cl : Tryz.prog.cellsOf 22 = 1 := by kernel_rfl
  intro N
  induction N with
  | zero =>
    intro fuel cs x hN hw h; obtain ⟨_, n, hn, _⟩ := DataW.trod_struct Tryz.underlying68 h; omega
  | succ N ih =>
    intro fuel cs x hN hw h; obtain ⟨xs, n, hn, hxe, hlen, hxl, hx⟩ := DataW.trod_struct Tryz.underlying68 h; obtain ⟨c0, c1, c2, c3, c4, c5, rfl⟩ : ∃ c0 c1 c2 c3 c4 c5, cs = [c0, c1, c2, c3, c4, c5] := by
      match cs, (hlen.trans hC) with
      | [c0, c1, c2, c3, c4, c5], _ => exact ⟨c0, c1, c2, c3, c4, c5, rfl⟩
    have hxl6 : xs.length = 6 := hxl; have at' : ∀ i : Nat, i < 6 → ∃ y, xs[i]? = some y := fun i hi => ⟨_, List.getElem?_eq_getElem (by omega)⟩
    obtain ⟨y0, g0⟩ := at' 0 (by omega); obtain ⟨y1, g1⟩ := at' 1 (by omega); obtain ⟨y2, g2⟩ := at' 2 (by omega); obtain ⟨y3, g3⟩ := at' 3 (by omega); obtain ⟨y4, g4⟩ := at' 4 (by omega); obtain ⟨y5, g5⟩ := at' 5 (by omega); have h0 := (hx 0 _ rfl).trans g0; have h1 := (hx 1 _ rfl).trans g1; have h2 := (hx 2 _ rfl).trans g2; have h3 := (hx 3 _ rfl).trans g3; have h4 := (hx 4 _ rfl).trans g4; have h5 := (hx 5 _ rfl).trans g5; obtain ⟨k, e0, _, w0⟩ := DataW.trod_int Tryz.underlying3 h0; obtain ⟨a, e1, _, w1⟩ := DataW.trod_int Tryz.underlying3 h1; obtain ⟨b, e2, _, w2⟩ := DataW.trod_int Tryz.underlying3 h2; obtain ⟨s, e3, _, w3⟩ := DataW.trod_string Tryz.underlying9 h3; obtain ⟨t, e4, _, w4⟩ := DataW.trod_string Tryz.underlying9 h4
    simp [ci, cs'] at e0 e1 e2 e3 e4
    subst e0 e1 e2 e3 e4; have h5w : ∀ m ∈ y5.1.weights Tryz.prog 22, m ≤ reachBytes := fun m hm => hw m (by
      rw [hxe]; have hxs : xs = [y0, y1, y2, y3, y4, y5] := by
        match xs, hxl6 with
        | [z0, z1, z2, z3, z4, z5], _ => simp at g0 g1 g2 g3 g4 g5; rw [g0, g1, g2, g3, g4, g5]
      rw [hxs]; have hu := Tryz.underlying68; simp only [DataW.weights, hu, List.map_cons, List.map_nil, DataW.weightsEach, List.mem_append]
      simp [hm])
    have hS : ∀ s : ByteArray, s.size ≤ maxLen → s.data.toList.length ≤ maxLen := fun s h => by rw [size_list]; exact h
    rcases DataW.trod_slice Tryz.underlying22 h5 with ⟨e, _⟩ | ⟨ad, len, cap, elems, rest, m, hm, e, hd5, hb, hl, hcm, hel, hsub, _⟩
    · simp [cl] at e
      subst e; refine ⟨⟨k, a, b, s.data.toList, t.data.toList, []⟩, none, 0, ?_, w0, w1, w2, hS s w3, hS t w4, Nat.le_refl _, ⟨by unfold maxLen; omega, by simp⟩, jg _ _ _ _ _ _⟩; rw [jax, jax]; rfl
    · simp [cl] at e
      subst e; rw [hd5] at h5w; have hu5 := Tryz.underlying22; have hb5 : Tryz.prog.bytesOf 68 = 80 := by kernel_rfl
      have hlen5 : len ≤ 140737488355328 := by
        have := h5w _ (by simp only [DataW.weights, hu5]; exact List.mem_cons_self); have hlt := reachBytes_lt; rw [List.length_map, hb5, hel] at this; omega
      have each : ∀ i, i < len → ∃ y : Stk, ∃ cs, w.cells? base (ad.add (i * 6)) 6 = some cs ∧ StkM (N + 1) w y cs := by
        intro i hi; have h6 := hsub i hi; rw [hC] at h6; obtain ⟨z, hz⟩ : ∃ z, elems[i]? = some z := ⟨_, List.getElem?_eq_getElem (by omega)⟩; rw [hz] at h6; cases hcs : w.cells? base (ad.add (i * 6)) 6 with
        | none => rw [hcs] at h6; cases h6
        | some cs2 =>
          rw [hcs] at h6; obtain ⟨y, hy⟩ := ih m cs2 z (by omega) (fun q hq => h5w q (by simp only [DataW.weights, hu5]; exact List.mem_cons_of_mem _ (List.mem_append_left _ (jav (List.mem_map.2 ⟨z, List.mem_of_getElem? hz, rfl⟩) hq)))) h6; exact ⟨y, cs2, rfl, hy⟩
      haveI : Inhabited Stk := ⟨⟨0, 0, 0, [], [], []⟩⟩
      obtain ⟨q, hq⟩ := choose_lt each; refine ⟨⟨k, a, b, s.data.toList, t.data.toList, (List.range len).map q⟩, some ad, cap, ?_, w0, w1, w2, hS s w3, hS t w4, by simpa using hl, ⟨hcm, by simpa using hlen5⟩, some ad, cap, rfl, by simp; omega, fun i x hx => ?_⟩
      · rw [jax, jax]; simp
      · have hi : i < len := by
          rcases Nat.lt_or_ge i len with h | h
          · exact h
          · rw [List.getElem?_eq_none (by simpa using h)] at hx; cases hx
        rw [List.getElem?_map, List.getElem?_range hi] at hx; simp only [Option.map_some, Option.some.injEq] at hx; subst hx; obtain ⟨cs2, hc2, hy⟩ := hq i hi; obtain ⟨_, hlen2, hcell⟩ := World.cells?_some hc2; obtain ⟨bb, off, spot⟩ := ad; have hspot : spot = none := by
          obtain ⟨cs3, hc3, _⟩ := hq 0 (by omega); obtain ⟨_, hlen3, hcell3⟩ := World.cells?_some hc3; obtain ⟨u3, hu3⟩ : ∃ u, cs3[0]? = some u := ⟨_, List.getElem?_eq_getElem (by omega)⟩; have hc4 := hcell3 0 (by omega); rw [hu3] at hc4; have := World.cell?_spot hc4
          simpa [Addr.add] using this
        subst hspot; have hc0 := hcell 0 (by omega); obtain ⟨u0, hu0⟩ : ∃ u, cs2[0]? = some u := ⟨_, List.getElem?_eq_getElem (by omega)⟩; rw [hu0] at hc0; rw [Addr.add_lit, Addr.add_lit] at hc0; refine ⟨bb, off, cs2, rfl, World.block_lt_of_cell? w _ hc0, trivial, hlen2, fun j u hj => ?_, hy⟩; have hj6 : j < 6 := by rw [← hlen2]; exact (List.getElem?_eq_some_iff.1 hj).1
        have := hcell j hj6; rw [Addr.add_lit, Addr.add_lit, hj] at this; exact this
set_option maxRecDepth 100000 in
theorem open_sticks {H : Type} {enc : TypeId × Value → H} {w : World} {base b0 : Nat} {spare : Nat → Bool} {held : Bool} {v : Value} {d : DataW H} {p : List MemPlace}
    (hv : Value.okWide Tryz.prog w .any b0 22 v) (h : DataW.Trod enc Tryz.prog w base spare held 22 v d p) (hw : ∀ m ∈ d.weights Tryz.prog 22, m ≤ reachBytes) :
    ∃ (a : Option Addr) (c : Nat) (l : List Stk) (n : Nat), v = .slice a l.length c ∧ l.length ≤ c ∧ c ≤ maxLen ∧ SticksM n w (.slice a l.length c) l := by
  obtain ⟨a0, len0, cap0, rfl⟩ := okWide_slice Tryz.underlying22 hv; obtain ⟨fuel, hf0⟩ := h; have hC : Tryz.prog.cellsOf 68 = 6 := by kernel_rfl
  have hf : DataW.trod enc Tryz.prog w base spare held fuel 22 [.slice a0 len0 cap0] = some (d, p) := by simpa [Value.cells] using hf0
  rcases DataW.trod_slice Tryz.underlying22 hf with ⟨e, _⟩ | ⟨ad, len, cap, elems, rest, m, hm, e, hd5, hb, hl, hcm, hel, hsub, _⟩
  · simp at e
    obtain ⟨rfl, rfl, rfl⟩ := e; exact ⟨none, 0, [], 1, rfl, Nat.le_refl _, by unfold maxLen; omega, jg _ _ _ _ _ _⟩
  · simp at e
    obtain ⟨rfl, rfl, rfl⟩ := e; have hd6 := congrArg Prod.fst hd5; simp only at hd6; rw [hd6] at hw; have hu5 := Tryz.underlying22; have each : ∀ i, i < len0 → ∃ y : Stk, ∃ cs, w.cells? base (ad.add (i * 6)) 6 = some cs ∧ StkM (m + 1) w y cs := by
      intro i hi; have h6 := hsub i hi; rw [hC] at h6; obtain ⟨z, hz⟩ : ∃ z, elems[i]? = some z := ⟨_, List.getElem?_eq_getElem (by omega)⟩; rw [hz] at h6; cases hcs : w.cells? base (ad.add (i * 6)) 6 with
      | none => rw [hcs] at h6; cases h6
      | some cs2 =>
        rw [hcs] at h6; obtain ⟨y, hy⟩ := jjl m m cs2 z (Nat.le_refl _) (fun q hq => hw q (by simp only [DataW.weights, hu5]; exact List.mem_cons_of_mem _ (List.mem_append_left _ (jav (List.mem_map.2 ⟨z, List.mem_of_getElem? hz, rfl⟩) hq)))) h6; exact ⟨y, cs2, rfl, hy⟩
    haveI : Inhabited Stk := ⟨⟨0, 0, 0, [], [], []⟩⟩
    obtain ⟨q, hq⟩ := choose_lt each; refine ⟨some ad, cap0, (List.range len0).map q, m + 1, by simp, by simpa using hl, hcm, some ad, cap0, rfl, by simp; omega, fun i x hx => ?_⟩; have hi : i < len0 := by
      rcases Nat.lt_or_ge i len0 with h | h
      · exact h
      · rw [List.getElem?_eq_none (by simpa using h)] at hx; cases hx
    rw [List.getElem?_map, List.getElem?_range hi] at hx; simp only [Option.map_some, Option.some.injEq] at hx; subst hx; obtain ⟨cs2, hc2, hy⟩ := hq i hi; obtain ⟨_, hlen2, hcell⟩ := World.cells?_some hc2; obtain ⟨bb, off, spot⟩ := ad; have hspot : spot = none := by
      obtain ⟨cs3, hc3, _⟩ := hq 0 (by omega); obtain ⟨_, hlen3, hcell3⟩ := World.cells?_some hc3; obtain ⟨u3, hu3⟩ : ∃ u, cs3[0]? = some u := ⟨_, List.getElem?_eq_getElem (by omega)⟩; have hc4 := hcell3 0 (by omega); rw [hu3] at hc4; have := World.cell?_spot hc4
      simpa [Addr.add] using this
    subst hspot; have hc0 := hcell 0 (by omega); obtain ⟨u0, hu0⟩ : ∃ u, cs2[0]? = some u := ⟨_, List.getElem?_eq_getElem (by omega)⟩; rw [hu0] at hc0; rw [Addr.add_lit, Addr.add_lit] at hc0; refine ⟨bb, off, cs2, rfl, World.block_lt_of_cell? w _ hc0, trivial, hlen2, fun j u hj => ?_, hy⟩; have hj6 : j < 6 := by rw [← hlen2]; exact (List.getElem?_eq_some_iff.1 hj).1
    have := hcell j hj6; rw [Addr.add_lit, Addr.add_lit, hj] at this; exact this
end Go.Proofs.YthikilhhmianlaaGreatDoor
namespace Go.Proofs.YthikilhhmianlaaGreatDoor
open Go.RowKit
def jL (n : Int) (m : Nat) : Nat := ((if n < 0 then -(n + 1) else n) % (m : Int)).toNat
theorem jI (n : Int) (m : Nat) (hm : 0 < m) : jL n m < m := by
  unfold jL; have h1 := Int.emod_nonneg (if n < 0 then -(n + 1) else n) (b := (m : Int)) (by omega); have h2 := Int.emod_lt_of_pos (if n < 0 then -(n + 1) else n) (b := (m : Int)) (by omega); omega
set_option maxHeartbeats 1000000 in
theorem jk (n : Int) (m : Nat) (w : World) (hn : (Lit.int .i64 n).wf = true) (hm : 0 < m) (hm2 : m ≤ 9223372036854775807) :
    Calls Tryz.prog 42 #[.int .i64 n, .int .i64 m] w fun e w' => e = .returned (.int .i64 (jL n m)) ∧ w' = w := by
  have hb := bounds_i64 hn; obtain ⟨hb1, hb2⟩ := hb; clear hn; have HP : Hid ((jL n m : Int) = (if n < 0 then -(n + 1) else n) % (m : Int)) := by
    unfold Hid jL; have h1 := Int.emod_nonneg (if n < 0 then -(n + 1) else n) (b := (m : Int)) (by omega); omega
  have hmz : ((m : Int) == 0) = false := by simp; omega
  by_cases h : n < 0
  · have HQ : Hid ((jL n m : Int) = (-(n + 1)) % (m : Int)) := by unfold Hid; rw [HP.out, if_pos h]
    clear HP; go_enter Tryz.func42, Tryz.ntmps42; go_wp2; go_ret; exact ⟨jj (by rw [HQ.out, ← Int.neg_tmod]; exact Int.tmod_eq_emod_of_nonneg (by omega)), rfl⟩
  · have HQ : Hid ((jL n m : Int) = n % (m : Int)) := by unfold Hid; rw [HP.out, if_neg h]
    clear HP; go_enter Tryz.func42, Tryz.ntmps42; go_wp2; go_ret; exact ⟨jj (by rw [HQ.out]), rfl⟩
end Go.Proofs.YthikilhhmianlaaGreatDoor
