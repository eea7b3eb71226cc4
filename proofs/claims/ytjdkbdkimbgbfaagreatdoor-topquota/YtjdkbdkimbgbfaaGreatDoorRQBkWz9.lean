/-
  The writer of a batch's bytes: memory, and the walk of its numbers.
-/
import Derived.Test.YtjdkbdkimbgbfaaGreatDoorRQLmHand16
import Derived.Test.YtjdkbdkimbgbfaaGreatDoorRows
set_option maxHeartbeats 2000000
set_option maxRecDepth 100000
namespace Go.Proofs.YtjdkbdkimbgbfaaGreatDoor
open Go.RowKit Go.Proofs
variable {l : List UInt8} {vm xs : List Value} {B B' b c i j k n p : Nat} {g g' : Option Nat} {s : Stt} {A : Type} {e t : TypeId} {v v0 v1 v2 vb vs : Value} {w w' w3 : World}
structure Wro (b : Nat) (g g' : Option Nat) (w w' : World) : Prop where
 os : w'.os = w.os
 tape : w'.tape = w.tape
 output : w'.output = w.output
 size : w.heap.size <= w'.heap.size
 block : ∀ k, k < w.heap.size -> k ≠ b -> g ≠ some k -> w'.heap[k]? = w.heap[k]?
 row : ∀ k, g' = some k -> g = some k ∨ w.heap.size <= k
theorem Wro.refl (b : Nat) (g : Option Nat) (w : World) : Wro b g g w w := ⟨rfl, rfl, rfl, ai _, fun _ _ _ _ => rfl, fun _ h => .inl h⟩
theorem Wro.trans {b : Nat} {g g' g'' : Option Nat} {x y z : World} (h : Wro b g g' x y) (k : Wro b g' g'' y z) : Wro b g g'' x z :=
 ⟨k.os.trans h.os, k.tape.trans h.tape, k.output.trans h.output, aN h.size k.size,
  fun i hi hn hg => (k.block i (aK hi h.size) hn (fun e => by rcases h.row i e with q | q; exact hg q; omega)).trans (h.block i hi hn hg),
  fun i e => by
   rcases k.row i e with q | q
   . exact h.row i q
   . exact .inr (aN h.size q)⟩
theorem Wro.of (h : Below w.heap.size w w') : Wro b g g w w' := ⟨h.os, h.tape, h.output, h.size, fun k hk _ _ => h.block k hk, fun _ h => .inl h⟩
theorem Wro.below (h : Wro b g g' w w') (hB : B <= b) (hw : B <= w.heap.size) (hg : ∀ k, g = some k -> B <= k) : Below B w w' :=
 ⟨h.os, h.tape, h.output, h.size, fun k hk => h.block k (by omega) (by omega) (fun e => by have := hg k e; omega)⟩
def ByW (B : Nat) (w : World) (b : Nat) (g : Option Nat) (l : List UInt8) : Prop :=
 ∃ a c, w.heap[b]? = some (.cells #[.slice a l.length c] 209) /\ (Value.slice a l.length c).ownBlock = g /\ g ≠ some b /\ B <= b /\ w.ownsRow B 5 1 (.slice a l.length c) l.length (byC l)
theorem ByW.lt (h : ByW B w b g l) : b < w.heap.size := by
 obtain ⟨a, c, h1, _⟩ := h; exact (aj.1 h1).1
theorem ByW.row (h : ByW B w b g l) : ∀ k, g = some k -> B <= k /\ k < w.heap.size /\ k ≠ b := by
 obtain ⟨a, c, _, h2, h3, _, h4⟩ := h; intro k hk; have := aA h4 k (h2.trans hk); exact ⟨this.1, this.2, fun e => h3 (by rw [hk, e])⟩
theorem ByW.next (h : ByW B w b g l) (hb : Below w.heap.size w w') : ByW B w' b g l := by
 obtain ⟨a, c, h1, h2, h3, h4, h5⟩ := h; exact ⟨a, c, qJ hb h1, h2, h3, h4, vE h5 fun g hg => hb.block g (aA h5 g hg).2⟩
theorem Wro.low (h : Wro b g g' w w') (hb : ByW B w b g l) : Below B w w' := by
 have h1 := hb.lt; have h2 : B <= b := by obtain ⟨_, _, _, _, _, h, _⟩ := hb; exact h
 exact h.below h2 (by omega) fun k hk => (hb.row k hk).1
theorem Wro.obj {o : Obj} (h : Wro b g g' w w') (_hb : ByW B w b g l) (hp : w.heap[p]? = some o) (hn : p ≠ b) (hg : g ≠ some p) : w'.heap[p]? = some o :=
 (h.block p (aj.1 hp).1 hn hg).trans hp
theorem Wro.stay (h : Wro b g g' w w') (hp : p < w.heap.size) (hg : g ≠ some p) : g' ≠ some p := by
 intro e
 rcases h.row p e with q | q
 . exact hg q
 . omega
def WnP (B b : Nat) (g : Option Nat) (w : World) (l : List UInt8) (e : Ending) (w' : World) : Prop := e = .returned (.tuple #[]) /\ ∃ g', ByW B w' b g' l /\ Wro b g g' w w'
theorem jbK (W : World) (H : Nat) (hH : W.heap.size = H) (v : Value) (t : TypeId) : ∀ j u, [v][j]? = some u -> (W.alloc (.cells #[v] t)).cell? ((⟨H, 0, none⟩ : Addr).add j) = some u := by
 intro j u hj; subst hH; cases j with
 | zero => simp at hj; subst hj; rw [bg]; simp
 | succ j => simp at hj
theorem jgl (l : List UInt8) (n : Nat) : byC (l ++ [UInt8.ofNat n]) = byC l ++ [.int .u8 ((n % 256 : Nat) : Int)] := by
 rw [jj3]
 simp [byC]
theorem jc4 {g2 : Nat} (o : Obj) (hg : (w.drew.alloc o).grownBy w3 g) (hat : g = some g2 ∨ g2 = (w.drew.alloc o).heap.size) : Wro b g (some g2) w w3 := by
 have hz : (w.drew.alloc o).heap.size = w.heap.size + 1 := by simp
 refine ⟨hg.os, hg.tape, hg.output, by have := hg.size; omega, fun k hk _ hn => ?_, fun k hk => ?_⟩
 . refine (hg.block k (by omega) fun e => hn e.symm).trans ?_; exact Below.heap_alloc w.drew o k hk
 . cases hk
   rcases hat with h | h
   . exact .inl h
   . exact .inr (by omega)
theorem Wro.set (h : Wro b g g' w w') (o : Nat) (v : Value) : Wro b g g' w (w'.setCell ⟨b, o, none⟩ v) :=
 ⟨h.os, h.tape, h.output, by have := h.size; simpa [World.setCell] using this, fun k hk hb hg => (aC _ _ _ _ hb).trans (h.block k hk hb hg), h.row⟩
theorem qw (n k B b : Nat) (g : Option Nat) (l : List UInt8) (w : World) (hw : ByW B w b g l) (hk : k <= 3) (hl : l.length <= 1000000) :
 Calls Tryz.prog 126 #[.pointer (some ⟨b, 0, none⟩), .int .i64 n, .int .i64 k] w (WnP B b g w (l ++ beB n k)) := by
 obtain ⟨i0, hi, hz0, hz1, hz2⟩ := ja1 jkK; have HW := bhid hw; clear hw; go_enter Tryz.func126, Tryz.ntmps126; go_wp2
 go_loopw [6] (fun v wr => ∃ (i : Nat) (pre : List UInt8) (g9 : Option Nat), i <= k /\ v = .int .i64 ((i : Int) - 1) /\ Hid (beB n k = pre ++ beB n i) /\ pre.length + i = k /\ Hid (ByW B wr b g9 (l ++ pre)) /\ Hid (Wro b g g9 w wr)) (fun v _ => (intOf v + 1).toNat)
 case atStart => exact ⟨k, [], g, ai _, rfl, rfl, by simp, by rw [bO]; exact HW, Wro.refl _ _ _⟩
 case round =>
  obtain ⟨i, pre, g9, hik, rfl, HP, hpl, HY, HX⟩ := hrel; cases i with
  | zero =>
    have HE := bhid (show WnP B b g w (l ++ beB n k) (.returned (.tuple #[])) wr from ⟨rfl, g9, by rw [HP.out]; simpa [beB] using HY.out, HX.out⟩); go_wp2; go_end0; exact HE.out
  | succ i =>
    have h3 : i < 3 := by omega
    match i, h3 with
    | 0, _ =>
      obtain ⟨m, hm⟩ : ∃ m, m = n / 256 ^ 0 := ⟨_, rfl⟩; have sG : Op.shift BinOp.shr IntKind.i64 (n : Int) IntKind.i64 (IntKind.i64.wrap 0) = pure (.int .i64 (m : Int)) := by
       rw [show IntKind.i64.wrap 0 = 0 by decide, shift_shr_any _ _ _ _ (by decide), hm]
       simp [IntKind.bits]
      have hcv : IntKind.u8.wrap (m : Int) = ((m % 256 : Nat) : Int) := by simp [IntKind.wrap, IntKind.bits, IntKind.signed]
      have kI := bhid (show byC (l ++ pre ++ [UInt8.ofNat m]) = byC (l ++ pre) ++ [.int .u8 ((m % 256 : Nat) : Int)] from jgl _ _); have l9 := bhid (show beB n k = pre ++ [UInt8.ofNat m] ++ beB n 0 by rw [HP.out, jdU, <- hm]; simp); have HAS := bhid (aH l pre [UInt8.ofNat m]); obtain ⟨a, c, h1, h2, h3, h4, h5⟩ := HY.out; have hc0 : wr.cell? ⟨b, 0, none⟩ = some (.slice a (l ++ pre).length c) := by simp [World.cell?, h1]
      have lG : wr.frozen? ⟨b, 0, none⟩ = false := by simp [World.frozen?, h1]
      have hbl : b < wr.heap.size := HY.out.lt; have hne : b ≠ wr.heap.size := by omega
      have lL : wr.heap.size ≠ b := by omega
      have H1 := bhid h1; have H2 := bhid h2; have H3 := bhid h3; have H5 := bhid h5; have xD : B <= wr.heap.size := by omega
      have gR : (l ++ pre).length <= 1000003 := by rw [aB]; omega
      generalize l ++ pre = q at *; clear h1 h2 h3 h5 hm; go_upto_region 3 with fail
      go_region_law
       (refine step_append_lies _ (by rfl) _ _ _ (by rfl) B 5 i0 _ 1 1 Tryz.underlying66 hi hz0 hz1 hz2 rfl (by omega) (.slice a q.length c) q.length (byC q) (by rfl) (by exact aO (show World.ownsRow wr.drew _ _ _ _ _ _ from H5.out) _)
         ⟨wr.heap.size, 0, none⟩ 1 1 [.int .u8 ((m % 256 : Nat) : Int)] (by rfl) (by rfl) (by exact jbK wr.drew _ rfl _ _) (by simp [Value.oneCell']) (by omega) (by unfold maxLen; omega) (by omega) (by simp; omega) _ rfl ?_
        intro g2 cap w3 dn hgrow hat fh; have cP := bhid (jc4 (b := b) _ hgrow hat); have H3b := bhid (show w3.heap[b]? = some (.cells #[.slice a q.length c] 209) from (hgrow.block b (by simp; omega) (fun e => H3.out (H2.out.symm.trans e.symm))).trans ((Below.heap_alloc wr.drew _ b hbl).trans H1.out)); have q3 : w3.cell? ⟨b, 0, none⟩ = some (.slice a q.length c) := by simp [World.cell?, H3b.out]
        have z3 : w3.frozen? ⟨b, 0, none⟩ = false := by simp [World.frozen?, H3b.out]
        have hg2 : g2 ≠ b := by
           intro e
           rcases hat with h | h
           . exact H3.out (H2.out.symm.trans (by rw [h, e]))
           . simp at h; omega
        clear hgrow hat)
      all_goals
       have HE := bhid (show ByW B (w3.setCell ⟨b, 0, none⟩ (.slice (some ⟨g2, 0, none⟩) (q.length + 1) cap)) b (some g2) (l ++ (pre ++ [UInt8.ofNat m])) by
            rw [<- HAS.out]; refine ⟨some ⟨g2, 0, none⟩, cap, ?_, rfl, fun e => hg2 (bk e), h4, ?_⟩
            . have := aM w3 b 0 #[.slice a q.length c] 209 (.slice (some ⟨g2, 0, none⟩) (q.length + 1) cap) H3b.out
              simpa using this
            . rw [kI.out, aB]; refine vE dn fun g hg => ?_
              cases hg; exact qK hg2)
       have HF := bhid (show Wro b g (some g2) w (w3.setCell ⟨b, 0, none⟩ (.slice (some ⟨g2, 0, none⟩) (q.length + 1) cap)) from HX.out.trans (H2.out ▸ cP.out.set 0 _)); have fK : (pre ++ [UInt8.ofNat m]).length + 0 = k := by rw [aB]; simp; omega
       clear dn; go_wp2
       go_roundw
       case rel => first | exact ⟨0, pre ++ [UInt8.ofNat m], some g2, by omega, by first | rfl | go_num, l9, fK, HE, HF⟩ | ((repeat apply Exists.intro); exact ⟨⟨0, pre ++ [UInt8.ofNat m], some g2, by omega, by first | rfl | go_num, l9, fK, HE, HF⟩, rfl⟩)
       case measure => simp [intOf]
    | 1, _ =>
      obtain ⟨m, hm⟩ : ∃ m, m = n / 256 ^ 1 := ⟨_, rfl⟩; have sG : Op.shift BinOp.shr IntKind.i64 (n : Int) IntKind.i64 (IntKind.i64.wrap 8) = pure (.int .i64 (m : Int)) := by
       rw [show IntKind.i64.wrap 8 = 8 by decide, shift_shr_any _ _ _ _ (by decide), hm]
       simp [IntKind.bits]
      have hcv : IntKind.u8.wrap (m : Int) = ((m % 256 : Nat) : Int) := by simp [IntKind.wrap, IntKind.bits, IntKind.signed]
      have kI := bhid (show byC (l ++ pre ++ [UInt8.ofNat m]) = byC (l ++ pre) ++ [.int .u8 ((m % 256 : Nat) : Int)] from jgl _ _); have l9 := bhid (show beB n k = pre ++ [UInt8.ofNat m] ++ beB n 1 by rw [HP.out, jdU, <- hm]; simp); have HAS := bhid (aH l pre [UInt8.ofNat m]); obtain ⟨a, c, h1, h2, h3, h4, h5⟩ := HY.out; have hc0 : wr.cell? ⟨b, 0, none⟩ = some (.slice a (l ++ pre).length c) := by simp [World.cell?, h1]
      have lG : wr.frozen? ⟨b, 0, none⟩ = false := by simp [World.frozen?, h1]
      have hbl : b < wr.heap.size := HY.out.lt; have hne : b ≠ wr.heap.size := by omega
      have lL : wr.heap.size ≠ b := by omega
      have H1 := bhid h1; have H2 := bhid h2; have H3 := bhid h3; have H5 := bhid h5; have xD : B <= wr.heap.size := by omega
      have gR : (l ++ pre).length <= 1000003 := by rw [aB]; omega
      generalize l ++ pre = q at *; clear h1 h2 h3 h5 hm; go_upto_region 3 with fail
      go_region_law
       (refine step_append_lies _ (by rfl) _ _ _ (by rfl) B 5 i0 _ 1 1 Tryz.underlying66 hi hz0 hz1 hz2 rfl (by omega) (.slice a q.length c) q.length (byC q) (by rfl) (by exact aO (show World.ownsRow wr.drew _ _ _ _ _ _ from H5.out) _)
         ⟨wr.heap.size, 0, none⟩ 1 1 [.int .u8 ((m % 256 : Nat) : Int)] (by rfl) (by rfl) (by exact jbK wr.drew _ rfl _ _) (by simp [Value.oneCell']) (by omega) (by unfold maxLen; omega) (by omega) (by simp; omega) _ rfl ?_
        intro g2 cap w3 dn hgrow hat fh; have cP := bhid (jc4 (b := b) _ hgrow hat); have H3b := bhid (show w3.heap[b]? = some (.cells #[.slice a q.length c] 209) from (hgrow.block b (by simp; omega) (fun e => H3.out (H2.out.symm.trans e.symm))).trans ((Below.heap_alloc wr.drew _ b hbl).trans H1.out)); have q3 : w3.cell? ⟨b, 0, none⟩ = some (.slice a q.length c) := by simp [World.cell?, H3b.out]
        have z3 : w3.frozen? ⟨b, 0, none⟩ = false := by simp [World.frozen?, H3b.out]
        have hg2 : g2 ≠ b := by
           intro e
           rcases hat with h | h
           . exact H3.out (H2.out.symm.trans (by rw [h, e]))
           . simp at h; omega
        clear hgrow hat)
      all_goals
       have HE := bhid (show ByW B (w3.setCell ⟨b, 0, none⟩ (.slice (some ⟨g2, 0, none⟩) (q.length + 1) cap)) b (some g2) (l ++ (pre ++ [UInt8.ofNat m])) by
            rw [<- HAS.out]; refine ⟨some ⟨g2, 0, none⟩, cap, ?_, rfl, fun e => hg2 (bk e), h4, ?_⟩
            . have := aM w3 b 0 #[.slice a q.length c] 209 (.slice (some ⟨g2, 0, none⟩) (q.length + 1) cap) H3b.out
              simpa using this
            . rw [kI.out, aB]; refine vE dn fun g hg => ?_
              cases hg; exact qK hg2)
       have HF := bhid (show Wro b g (some g2) w (w3.setCell ⟨b, 0, none⟩ (.slice (some ⟨g2, 0, none⟩) (q.length + 1) cap)) from HX.out.trans (H2.out ▸ cP.out.set 0 _)); have fK : (pre ++ [UInt8.ofNat m]).length + 1 = k := by rw [aB]; simp; omega
       clear dn; go_wp2
       go_roundw
       case rel => first | exact ⟨1, pre ++ [UInt8.ofNat m], some g2, by omega, by first | rfl | go_num, l9, fK, HE, HF⟩ | ((repeat apply Exists.intro); exact ⟨⟨1, pre ++ [UInt8.ofNat m], some g2, by omega, by first | rfl | go_num, l9, fK, HE, HF⟩, rfl⟩)
       case measure => simp [intOf]
    | 2, _ =>
      obtain ⟨m, hm⟩ : ∃ m, m = n / 256 ^ 2 := ⟨_, rfl⟩; have sG : Op.shift BinOp.shr IntKind.i64 (n : Int) IntKind.i64 (IntKind.i64.wrap 16) = pure (.int .i64 (m : Int)) := by
       rw [show IntKind.i64.wrap 16 = 16 by decide, shift_shr_any _ _ _ _ (by decide), hm]
       simp [IntKind.bits]
      have hcv : IntKind.u8.wrap (m : Int) = ((m % 256 : Nat) : Int) := by simp [IntKind.wrap, IntKind.bits, IntKind.signed]
      have kI := bhid (show byC (l ++ pre ++ [UInt8.ofNat m]) = byC (l ++ pre) ++ [.int .u8 ((m % 256 : Nat) : Int)] from jgl _ _); have l9 := bhid (show beB n k = pre ++ [UInt8.ofNat m] ++ beB n 2 by rw [HP.out, jdU, <- hm]; simp); have HAS := bhid (aH l pre [UInt8.ofNat m]); obtain ⟨a, c, h1, h2, h3, h4, h5⟩ := HY.out; have hc0 : wr.cell? ⟨b, 0, none⟩ = some (.slice a (l ++ pre).length c) := by simp [World.cell?, h1]
      have lG : wr.frozen? ⟨b, 0, none⟩ = false := by simp [World.frozen?, h1]
      have hbl : b < wr.heap.size := HY.out.lt; have hne : b ≠ wr.heap.size := by omega
      have lL : wr.heap.size ≠ b := by omega
      have H1 := bhid h1; have H2 := bhid h2; have H3 := bhid h3; have H5 := bhid h5; have xD : B <= wr.heap.size := by omega
      have gR : (l ++ pre).length <= 1000003 := by rw [aB]; omega
      generalize l ++ pre = q at *; clear h1 h2 h3 h5 hm; go_upto_region 3 with fail
      go_region_law
       (refine step_append_lies _ (by rfl) _ _ _ (by rfl) B 5 i0 _ 1 1 Tryz.underlying66 hi hz0 hz1 hz2 rfl (by omega) (.slice a q.length c) q.length (byC q) (by rfl) (by exact aO (show World.ownsRow wr.drew _ _ _ _ _ _ from H5.out) _)
         ⟨wr.heap.size, 0, none⟩ 1 1 [.int .u8 ((m % 256 : Nat) : Int)] (by rfl) (by rfl) (by exact jbK wr.drew _ rfl _ _) (by simp [Value.oneCell']) (by omega) (by unfold maxLen; omega) (by omega) (by simp; omega) _ rfl ?_
        intro g2 cap w3 dn hgrow hat fh; have cP := bhid (jc4 (b := b) _ hgrow hat); have H3b := bhid (show w3.heap[b]? = some (.cells #[.slice a q.length c] 209) from (hgrow.block b (by simp; omega) (fun e => H3.out (H2.out.symm.trans e.symm))).trans ((Below.heap_alloc wr.drew _ b hbl).trans H1.out)); have q3 : w3.cell? ⟨b, 0, none⟩ = some (.slice a q.length c) := by simp [World.cell?, H3b.out]
        have z3 : w3.frozen? ⟨b, 0, none⟩ = false := by simp [World.frozen?, H3b.out]
        have hg2 : g2 ≠ b := by
           intro e
           rcases hat with h | h
           . exact H3.out (H2.out.symm.trans (by rw [h, e]))
           . simp at h; omega
        clear hgrow hat)
      all_goals
       have HE := bhid (show ByW B (w3.setCell ⟨b, 0, none⟩ (.slice (some ⟨g2, 0, none⟩) (q.length + 1) cap)) b (some g2) (l ++ (pre ++ [UInt8.ofNat m])) by
            rw [<- HAS.out]; refine ⟨some ⟨g2, 0, none⟩, cap, ?_, rfl, fun e => hg2 (bk e), h4, ?_⟩
            . have := aM w3 b 0 #[.slice a q.length c] 209 (.slice (some ⟨g2, 0, none⟩) (q.length + 1) cap) H3b.out
              simpa using this
            . rw [kI.out, aB]; refine vE dn fun g hg => ?_
              cases hg; exact qK hg2)
       have HF := bhid (show Wro b g (some g2) w (w3.setCell ⟨b, 0, none⟩ (.slice (some ⟨g2, 0, none⟩) (q.length + 1) cap)) from HX.out.trans (H2.out ▸ cP.out.set 0 _)); have fK : (pre ++ [UInt8.ofNat m]).length + 2 = k := by rw [aB]; simp; omega
       clear dn; go_wp2
       go_roundw
       case rel => first | exact ⟨2, pre ++ [UInt8.ofNat m], some g2, by omega, by first | rfl | go_num, l9, fK, HE, HF⟩ | ((repeat apply Exists.intro); exact ⟨⟨2, pre ++ [UInt8.ofNat m], some g2, by omega, by first | rfl | go_num, l9, fK, HE, HF⟩, rfl⟩)
       case measure => simp [intOf]
theorem ByW.append {q s : List UInt8} {a a' : Option Addr} {c' : Nat} (h1 : w.heap[b]? = some (.cells #[.slice a q.length c] 209)) (h2 : (Value.slice a q.length c).ownBlock = g) (h3 : g ≠ some b) (h4 : B <= b) (hbl : b < w.heap.size)
 (hown : w3.ownsRow B 5 1 (.slice a' (q.length + s.length) c') (q.length + s.length) (byC q ++ byC s)) (hgrow : w.grownBy w3 (Value.slice a q.length c).ownBlock) (hrow : ∀ k, (Value.slice a' (q.length + s.length) c').ownBlock = some k -> g = some k ∨ w.heap.size <= k) :
 ∃ g', ByW B (w3.setCell ⟨b, 0, none⟩ (.slice a' (q.length + s.length) c')) b g' (q ++ s) /\ Wro b g g' w (w3.setCell ⟨b, 0, none⟩ (.slice a' (q.length + s.length) c')) := by
 have hb3 : w3.heap[b]? = some (.cells #[.slice a q.length c] 209) := (hgrow.block b hbl (fun e => h3 (h2.symm.trans e.symm))).trans h1; have dt : ∀ k, (Value.slice a' (q.length + s.length) c').ownBlock = some k -> k ≠ b := fun k hk e => by
  rcases hrow k hk with h | h
  . exact h3 (by rw [h, e])
  . omega
 refine ⟨(Value.slice a' (q.length + s.length) c').ownBlock, ⟨a', c', ?_, by rw [aB], fun e => dt b e rfl, h4, ?_⟩, ?_⟩
 . have := aM w3 b 0 #[.slice a q.length c] 209 (.slice a' (q.length + s.length) c') hb3; rw [aB]
   simpa using this
 . rw [aB, jj3]; exact vE hown fun k hk => qK (dt k hk)
 . exact ⟨hgrow.os, hgrow.tape, hgrow.output, by have := hgrow.size; simpa [World.setCell] using this, fun k hk hn hg => (aC _ _ _ _ hn).trans (hgrow.block k hk fun e => hg (h2.symm.trans e.symm)), hrow⟩
def wrT (x : Ent) : Nat -> List UInt8
 | 0 => txB x.box ++ (txB x.goal ++ txB x.text)
 | 1 => txB x.goal ++ txB x.text
 | 2 => txB x.text
 | _ => []
def wrH (x : Ent) : List UInt8 := beB x.kind.toNat 1 ++ (beB x.flags.toNat 1 ++ beB x.uid.toNat 3)
theorem jiD (x : Ent) : entB x = wrH x ++ wrT x 0 := by unfold entB wrH wrT; simp only [aH]
theorem ByW.base (h : ByW B w b g l) : B <= b := by obtain ⟨_, _, _, _, _, h, _⟩ := h; exact h
theorem arr0 (u v z : ByteArray) (w : World) : (Instr.index 310 (.agg #[.string u, .string v, .string z]) (.int .i64 0)).run Tryz.prog w = .ok (.string u) w := by kernel_rfl
theorem arr1 (u v z : ByteArray) (w : World) : (Instr.index 310 (.agg #[.string u, .string v, .string z]) (.int .i64 1)).run Tryz.prog w = .ok (.string v) w := by kernel_rfl
theorem arr2 (u v z : ByteArray) (w : World) : (Instr.index 310 (.agg #[.string u, .string v, .string z]) (.int .i64 2)).run Tryz.prog w = .ok (.string z) w := by kernel_rfl
theorem jos (x : Ent) (hx : Fits x) (B b : Nat) (g : Option Nat) (l : List UInt8) (w : World) (hw : ByW B w b g l) (hl : l.length <= 700000) :
 Calls Tryz.prog 206 #[.pointer (some ⟨b, 0, none⟩), .agg #[.int .i64 x.kind, .string (S x.box), .int .i64 x.uid, .int .i64 x.flags, .string (S x.goal), .string (S x.text)]] w (WnP B b g w (l ++ entB x)) := by
 obtain ⟨⟨k0, k1⟩, ⟨f0, f1⟩, ⟨u0, u1⟩, hb, hg, ht⟩ := hx; obtain ⟨kn, kr⟩ : ∃ kn : Nat, x.kind = (kn : Int) := ⟨x.kind.toNat, by omega⟩; obtain ⟨fn, hfn⟩ : ∃ fn : Nat, x.flags = (fn : Int) := ⟨x.flags.toNat, by omega⟩; obtain ⟨un, lV⟩ : ∃ un : Nat, x.uid = (un : Int) := ⟨x.uid.toNat, by omega⟩; have kN := bhid (show wrH x = beB kn 1 ++ (beB fn 1 ++ beB un 3) by unfold wrH; rw [kr, hfn, lV]; simp); have AA := bhid (jiD x); have fo := bhid (show wrT x 0 = txB x.box ++ wrT x 1 from rfl); have eW := bhid (show wrT x 1 = txB x.goal ++ wrT x 2 from rfl); have fx := bhid (show wrT x 2 = txB x.text ++ wrT x 3 by simp [wrT]); rw [kr, hfn, lV]; obtain ⟨W1, hW1⟩ : ∃ W1, W1 = w.alloc (.cells #[.int .i64 kn, .string (S x.box), .int .i64 un, .int .i64 fn, .string (S x.goal), .string (S x.text)] 32) := ⟨_, rfl⟩; have b9 := bhid hW1; have b8 : Below w.heap.size w W1 := by rw [hW1]; exact nb0 _ _
 have hp : W1.heap[w.heap.size]? = some (.cells #[.int .i64 kn, .string (S x.box), .int .i64 un, .int .i64 fn, .string (S x.goal), .string (S x.text)] 32) := by rw [hW1]; exact az w _
 have pX : w.heap.size ≠ b := by have := hw.lt; omega
 have pY : g ≠ some w.heap.size := fun e => by have := hw.row _ e; omega
 have HP := bhid hp; have nU := bhid pX; have o6 := bhid pY; have n8 := bhid (hw.next b8); have dB := bhid (show Wro b g g w W1 from Wro.of b8); have dO := hw.base; have c0 : W1.cell? ⟨w.heap.size, 0, none⟩ = some (.int .i64 kn) := by simp [World.cell?, hp]
 have hpl := (aj.1 hp).1; have nV := bhid hpl; clear hw hW1 b8 hp pX pY kr hfn lV k0 k1 f0 f1 u0 u1 hpl; go_enter Tryz.func206, Tryz.ntmps206; go_wp2_with fail; rw [<- b9.out]; refine (qw kn 1 B b g l W1 n8.out (by decide) (by omega)).mono ?_; rintro e w2 ⟨rfl, g2, lW, hx2⟩; have dN := bhid (hx2.obj n8.out HP.out nU.out o6.out); have iy := bhid (hx2.stay nV.out o6.out); have c3 : w2.cell? ⟨w.heap.size, 3, none⟩ = some (.int .i64 fn) := by simp [World.cell?, dN.out]
 have ec := bhid (dB.out.trans hx2); have i7 := bhid lW; have hl2 : (l ++ beB kn 1).length <= 700001 := by rw [aB, zn]; omega
 clear lW hx2 c0; go_wp2_with fail; refine (qw fn 1 B b g2 (l ++ beB kn 1) w2 i7.out (by decide) (by omega)).mono ?_; rintro e w3 ⟨rfl, g3, lX, hx3⟩; have kS := bhid (hx3.obj i7.out dN.out nU.out iy.out); have oQ := bhid (hx3.stay (aj.1 dN.out).1 iy.out); have c2 : w3.cell? ⟨w.heap.size, 2, none⟩ = some (.int .i64 un) := by simp [World.cell?, kS.out]
 have fq := bhid (ec.out.trans hx3); have lB := bhid lX; have lJ : (l ++ beB kn 1 ++ beB fn 1).length <= 700002 := by rw [aB, zn]; omega
 clear lX hx3 c3 hl2; go_wp2_with fail; refine (qw un 3 B b g3 (l ++ beB kn 1 ++ beB fn 1) w3 lB.out (by decide) (by omega)).mono ?_; rintro e w4 ⟨rfl, g4, mF, iH⟩; have l8 := bhid (iH.obj lB.out kS.out nU.out oQ.out); have c1 : w4.cell? ⟨w.heap.size, 1, none⟩ = some (.string (S x.box)) := by simp [World.cell?, l8.out]
 have c4 : w4.cell? ⟨w.heap.size, 4, none⟩ = some (.string (S x.goal)) := by simp [World.cell?, l8.out]
 have c5 : w4.cell? ⟨w.heap.size, 5, none⟩ = some (.string (S x.text)) := by simp [World.cell?, l8.out]
 have ft := bhid (fq.out.trans iH); have ua := bhid (show ByW B w4 b g4 (l ++ wrH x) by rw [kN.out]; simpa only [aH] using mF); have Dn : (wrH x).length = 5 := by rw [kN.out]; simp [zn]
 clear mF iH c2 lJ; go_wp2
 go_loopw [25] (fun v wr => ∃ (i : Nat) (pre : List UInt8) (g9 : Option Nat), i <= 3 /\ v = .int .i64 (i : Int) /\ Hid (entB x = pre ++ wrT x i) /\ pre.length <= 5 + 65538 * i /\ Hid (ByW B wr b g9 (l ++ pre)) /\ Hid (Wro b g g9 w wr)) (fun v _ => (3 - intOf v).toNat)
 case atStart => exact ⟨0, wrH x, g4, by omega, rfl, AA, by omega, ua, ft⟩
 case round =>
  obtain ⟨i, pre, g9, sr, rfl, rO, hpl, HY, HX⟩ := hrel
  by_cases hi : i = 3
  . subst hi; have HE := bhid (show WnP B b g w (l ++ entB x) (.returned (.tuple #[])) wr from ⟨rfl, g9, by rw [rO.out]; simpa [wrT] using HY.out, HX.out⟩); go_wp2; go_end0; exact HE.out
  . have h3 : i < 3 := by omega
    clear hi sr
    match i, h3 with
    | 0, _ =>
      have hq : (l ++ pre).length <= 900000 := by rw [aB]; omega
      have kT := bhid (show entB x = pre ++ txB x.box ++ wrT x (0 + 1) by rw [rO.out, fo.out]; simp); have eo := bhid (show (pre ++ txB x.box).length <= 5 + 65538 * (0 + 1) by unfold txB; simp only [aB, zn]; omega); have HAS := bhid (show l ++ pre ++ beB x.box.length 2 ++ x.box = l ++ (pre ++ txB x.box) by unfold txB; simp only [aH]); generalize l ++ pre = q at *; generalize x.box = s at *; have ar := arr0 (S s) (S x.goal) (S x.text); go_wp2_with fail; rw [jb]; refine (qw s.length 2 B b g9 q wr HY.out (by decide) (by omega)).mono ?_; rintro e w5 ⟨rfl, g5, iI, kG⟩; have i5 := bhid (HX.out.trans kG); obtain ⟨a, c, h1, h2, h3, h4, h5⟩ := iI; have yO : (q ++ beB s.length 2).length <= 900002 := by rw [aB, zn]; omega
      generalize q ++ beB s.length 2 = q5 at *; have d0 : w5.cell? ⟨b, 0, none⟩ = some (.slice a q5.length c) := by simp [World.cell?, h1]
      have e0 : w5.frozen? ⟨b, 0, none⟩ = false := by simp [World.frozen?, h1]
      have hbl := (aj.1 h1).1; have H1 := bhid h1; have H2 := bhid h2; have H3 := bhid h3; have H5 := bhid h5; have fv := bhid hbl; have dx : B <= w5.heap.size := by omega
      clear h1 h2 h3 h5 kG hbl
      go_wp2_with (at_builtin; refine qZ rfl _ _ rfl rfl H5.out rfl ?qc1 ?qc2 dx ?_)
      case qc1 => unfold maxLen; omega
      case qc2 => omega
      intro a6 c6 w6 hown hgrow hrow; obtain ⟨g6, fN, hx6⟩ := ByW.append (s := s) H1.out H2.out H3.out h4 fv.out hown hgrow (fun k hk => by rw [<- H2.out]; exact hrow k hk); have z6 : w6.frozen? ⟨b, 0, none⟩ = false := (bq (w := w5) (hgrow.block b fv.out fun e => H3.out (H2.out.symm.trans e.symm))).trans e0; have z7 : w6.cell? ⟨b, 0, none⟩ = some (.slice a q5.length c) := (aP (w := w5) (hgrow.block b fv.out fun e => H3.out (H2.out.symm.trans e.symm))).trans d0; rw [HAS.out] at fN; have me := bhid fN; have iC := bhid (i5.out.trans hx6); clear hown hgrow hrow fN hx6; go_wp2
      go_roundw
      case rel => first | exact ⟨1, pre ++ txB s, g6, by omega, by first | rfl | go_num, kT, eo.out, me, iC⟩ | ((repeat apply Exists.intro); exact ⟨⟨1, pre ++ txB s, g6, by omega, by first | rfl | go_num, kT, eo.out, me, iC⟩, rfl⟩)
      case measure => simp [intOf]
    | 1, _ =>
      have hq : (l ++ pre).length <= 900000 := by rw [aB]; omega
      have kT := bhid (show entB x = pre ++ txB x.goal ++ wrT x (1 + 1) by rw [rO.out, eW.out]; simp); have eo := bhid (show (pre ++ txB x.goal).length <= 5 + 65538 * (1 + 1) by unfold txB; simp only [aB, zn]; omega); have HAS := bhid (show l ++ pre ++ beB x.goal.length 2 ++ x.goal = l ++ (pre ++ txB x.goal) by unfold txB; simp only [aH]); generalize l ++ pre = q at *; generalize x.goal = s at *; have ar := arr1 (S x.box) (S s) (S x.text); go_wp2_with fail; rw [jb]; refine (qw s.length 2 B b g9 q wr HY.out (by decide) (by omega)).mono ?_; rintro e w5 ⟨rfl, g5, iI, kG⟩; have i5 := bhid (HX.out.trans kG); obtain ⟨a, c, h1, h2, h3, h4, h5⟩ := iI; have yO : (q ++ beB s.length 2).length <= 900002 := by rw [aB, zn]; omega
      generalize q ++ beB s.length 2 = q5 at *; have d0 : w5.cell? ⟨b, 0, none⟩ = some (.slice a q5.length c) := by simp [World.cell?, h1]
      have e0 : w5.frozen? ⟨b, 0, none⟩ = false := by simp [World.frozen?, h1]
      have hbl := (aj.1 h1).1; have H1 := bhid h1; have H2 := bhid h2; have H3 := bhid h3; have H5 := bhid h5; have fv := bhid hbl; have dx : B <= w5.heap.size := by omega
      clear h1 h2 h3 h5 kG hbl
      go_wp2_with (at_builtin; refine qZ rfl _ _ rfl rfl H5.out rfl ?qc1 ?qc2 dx ?_)
      case qc1 => unfold maxLen; omega
      case qc2 => omega
      intro a6 c6 w6 hown hgrow hrow; obtain ⟨g6, fN, hx6⟩ := ByW.append (s := s) H1.out H2.out H3.out h4 fv.out hown hgrow (fun k hk => by rw [<- H2.out]; exact hrow k hk); have z6 : w6.frozen? ⟨b, 0, none⟩ = false := (bq (w := w5) (hgrow.block b fv.out fun e => H3.out (H2.out.symm.trans e.symm))).trans e0; have z7 : w6.cell? ⟨b, 0, none⟩ = some (.slice a q5.length c) := (aP (w := w5) (hgrow.block b fv.out fun e => H3.out (H2.out.symm.trans e.symm))).trans d0; rw [HAS.out] at fN; have me := bhid fN; have iC := bhid (i5.out.trans hx6); clear hown hgrow hrow fN hx6; go_wp2
      go_roundw
      case rel => first | exact ⟨2, pre ++ txB s, g6, by omega, by first | rfl | go_num, kT, eo.out, me, iC⟩ | ((repeat apply Exists.intro); exact ⟨⟨2, pre ++ txB s, g6, by omega, by first | rfl | go_num, kT, eo.out, me, iC⟩, rfl⟩)
      case measure => simp [intOf]
    | 2, _ =>
      have hq : (l ++ pre).length <= 900000 := by rw [aB]; omega
      have kT := bhid (show entB x = pre ++ txB x.text ++ wrT x (2 + 1) by rw [rO.out, fx.out]; simp); have eo := bhid (show (pre ++ txB x.text).length <= 5 + 65538 * (2 + 1) by unfold txB; simp only [aB, zn]; omega); have HAS := bhid (show l ++ pre ++ beB x.text.length 2 ++ x.text = l ++ (pre ++ txB x.text) by unfold txB; simp only [aH]); generalize l ++ pre = q at *; generalize x.text = s at *; have ar := arr2 (S x.box) (S x.goal) (S s); go_wp2_with fail; rw [jb]; refine (qw s.length 2 B b g9 q wr HY.out (by decide) (by omega)).mono ?_; rintro e w5 ⟨rfl, g5, iI, kG⟩; have i5 := bhid (HX.out.trans kG); obtain ⟨a, c, h1, h2, h3, h4, h5⟩ := iI; have yO : (q ++ beB s.length 2).length <= 900002 := by rw [aB, zn]; omega
      generalize q ++ beB s.length 2 = q5 at *; have d0 : w5.cell? ⟨b, 0, none⟩ = some (.slice a q5.length c) := by simp [World.cell?, h1]
      have e0 : w5.frozen? ⟨b, 0, none⟩ = false := by simp [World.frozen?, h1]
      have hbl := (aj.1 h1).1; have H1 := bhid h1; have H2 := bhid h2; have H3 := bhid h3; have H5 := bhid h5; have fv := bhid hbl; have dx : B <= w5.heap.size := by omega
      clear h1 h2 h3 h5 kG hbl
      go_wp2_with (at_builtin; refine qZ rfl _ _ rfl rfl H5.out rfl ?qc1 ?qc2 dx ?_)
      case qc1 => unfold maxLen; omega
      case qc2 => omega
      intro a6 c6 w6 hown hgrow hrow; obtain ⟨g6, fN, hx6⟩ := ByW.append (s := s) H1.out H2.out H3.out h4 fv.out hown hgrow (fun k hk => by rw [<- H2.out]; exact hrow k hk); have z6 : w6.frozen? ⟨b, 0, none⟩ = false := (bq (w := w5) (hgrow.block b fv.out fun e => H3.out (H2.out.symm.trans e.symm))).trans e0; have z7 : w6.cell? ⟨b, 0, none⟩ = some (.slice a q5.length c) := (aP (w := w5) (hgrow.block b fv.out fun e => H3.out (H2.out.symm.trans e.symm))).trans d0; rw [HAS.out] at fN; have me := bhid fN; have iC := bhid (i5.out.trans hx6); clear hown hgrow hrow fN hx6; go_wp2
      go_roundw
      case rel => first | exact ⟨3, pre ++ txB s, g6, by omega, by first | rfl | go_num, kT, eo.out, me, iC⟩ | ((repeat apply Exists.intro); exact ⟨⟨3, pre ++ txB s, g6, by omega, by first | rfl | go_num, kT, eo.out, me, iC⟩, rfl⟩)
      case measure => simp [intOf]
def idxZ (p : A -> Bool) (l : List A) : Int := match l.findIdx? p with
 | none => -1
 | some i => i
theorem jnh {p : A -> Bool} {l : List A} {x : A} (h : ∀ (j : Nat) y, j < i -> l[j]? = some y -> p y = false) (hx : l[i]? = some x) (hp : p x = true) : idxZ p l = i := by
 have hi : i < l.length := (au.1 hx).1; have : l.findIdx? p = some i := List.findIdx?_eq_some_iff_getElem.2 ⟨hi, by rw [(au.1 hx).2]; exact hp, fun j hj => by rw [h j l[j] hj (aw (by omega))]; simp⟩; unfold idxZ; rw [this]
theorem jfl {p : A -> Bool} {l : List A} (h : ∀ (j : Nat) y, j < l.length -> l[j]? = some y -> p y = false) : idxZ p l = -1 := by
 have : l.findIdx? p = none := List.findIdx?_eq_none_iff.2 fun x hx => by
  obtain ⟨j, hj, rfl⟩ := List.getElem_of_mem hx; rw [h j _ hj (aw hj)]
 unfold idxZ; rw [this]
theorem jla {p : A -> Bool} {l : List A} {x : A} (h : ∀ (j : Nat) y, j < i -> l[j]? = some y -> p y = false) (hx : l[i]? = some x) (hp : p x = false) : ∀ (j : Nat) y, j < i + 1 -> l[j]? = some y -> p y = false := by
 intro j y hj hy
 by_cases e : j = i
 . subst e; rw [hx] at hy; cases hy; exact hp
 . exact h j y (by omega) hy
theorem jkG {p : A -> Bool} {l : List A} (h : l.findIdx? p = some i) : idxZ p l = i := by unfold idxZ; rw [h]
theorem jrp (l : List Bx) (p : Bx -> Bool) (a : Option Addr) (c f : Nat) (cap : Array Value) (eg : ∀ args w, (callFunc f args).run Tryz.prog w = .ok (.enter f args) w) (w : World) (Q : Nat -> Prop) (hL : BoxsM Q w (.slice a l.length c) l)
 (hf : ∀ b v u, Below w.heap.size w u -> Calls Tryz.prog f (#[.agg #[.string (S b.name), .int .i64 b.next, v]] ++ cap) u fun e u' => e = .returned (.bool (p b)) /\ Below u.heap.size u u') :
 Calls Tryz.prog 145 #[.slice a l.length c, .func (.func f) #[] cap] w fun e w' => e = .returned (.int .i64 (idxZ p l)) /\ Below w.heap.size w w' := by
 have hm := RowM.small hL; have HL := hid hL; have HF := hid hf; unfold maxLen at hm; clear hL hf; go_enter Tryz.func145, Tryz.ntmps145; go_wp2
 go_loopw [8] (fun v wr => ∃ i : Nat, i <= l.length /\ v = .int .i64 i /\ Hid (Below w.heap.size w wr) /\ Hid (∀ (j : Nat) y, j < i -> l[j]? = some y -> p y = false)) (fun v _ => l.length - (intOf v).toNat)
 case atStart => exact ⟨0, aQ _, rfl, ay _ _, fun j y h => by omega⟩
 case round =>
  obtain ⟨i, hi, rfl, HB, HI⟩ := hrel
  by_cases hlt : i < l.length
  . have i1 : (i : Int) < (l.length : Int) := by omega
    have i0 : (0 : Int) <= (i : Int) := by omega
    obtain ⟨x, hx⟩ : ∃ x, l[i]? = some x := ⟨_, aw hlt⟩; obtain ⟨b, o, v, rfl, _, e0, e1, e2, _⟩ := (HL.out.next HB.out).at hx; have HC := hid (HF.out x v wr HB.out); have HX := hid hx; clear hx; cases hp : p x with
    | true =>
      have HE := hid (jnh HI.out HX.out hp); rw [hp] at HC; clear hp
      go_wp2_with (go_at_fn f; refine Calls.mono HC.out ?_; rintro e u ⟨rfl, hb⟩)
      have bY := hid (HB.out.trans (hb.mono HB.out.size)); go_ret; exact ⟨jd HE.out.symm, bY.out⟩
    | false =>
      have HE := hid (jla HI.out HX.out hp); rw [hp] at HC; clear hp
      go_wp2_with (go_at_fn f; refine Calls.mono HC.out ?_; rintro e u ⟨rfl, hb⟩)
      have bY := hid (HB.out.trans (hb.mono HB.out.size))
      go_roundw
      case rel => first | exact ⟨i + 1, by omega, by go_num, bY, HE⟩ | ((repeat apply Exists.intro); exact ⟨⟨i + 1, by omega, by go_num, bY, HE⟩, rfl⟩) | (refine ⟨trivial, ?_⟩; (repeat apply Exists.intro); exact ⟨⟨i + 1, by omega, by go_num, bY, HE⟩, rfl⟩)
      case measure => simp [intOf]; omega
  . have i1 : ¬ (i : Int) < (l.length : Int) := by omega
    have HE := hid (jfl fun (j : Nat) y hj => HI.out j y (by omega)); go_wp2; go_ret; exact ⟨jd HE.out.symm, HB.out⟩
theorem jo6 (a b : List UInt8) : ((S a).toList == (S b).toList) = decide (a = b) := by
 rw [aW, aW, ji, ji]
 by_cases h : a = b
 . subst h; simp
 . simp [h]
theorem jgf (s n : List UInt8) (z : Int) (v : Value) (B : Nat) (w : World) (hc : w.cell? ⟨B, 0, none⟩ = some (.string (S s))) :
 Calls Tryz.prog 146 #[.agg #[.string (S n), .int .i64 z, v], .pointer (some ⟨B, 0, none⟩)] w fun e w' => e = .returned (.bool (decide (n = s))) /\ Below w.heap.size w w' := by
 have HS := hid (jo6 n s); have hc2 := jl hc (.cells #[.string (S n), .int .i64 z, v] 40); have HB := hid (show Below w.heap.size w (w.alloc (.cells #[.string (S n), .int .i64 z, v] 40)) from nb0 _ _); go_enter Tryz.func146, Tryz.ntmps146; go_wp2; go_ret; exact ⟨jc (by rw [<- HS.out]), HB.out⟩
theorem jaZ (l : List Bx) (s : List UInt8) (a : Option Addr) (c : Nat) (w : World) (Q : Nat -> Prop) (hL : BoxsM Q w (.slice a l.length c) l) :
 Calls Tryz.prog 97 #[.slice a l.length c, .string (S s)] w fun e w' => e = .returned (.int .i64 (idxZ (isName s) l)) /\ Below w.heap.size w w' := by
 have wm : ∀ (fn : Fn) (first cap : Array Value) (w : World), (Instr.makeFunc fn first cap).run Tryz.prog w = .ok (.func fn first cap) w := fun _ _ _ _ => rfl
 have eg : ∀ args w, (callFunc 146 args).run Tryz.prog w = .ok (.enter 146 args) w := enters_of Tryz.func146 (by kernel_rfl) rfl; have b8 : Below w.heap.size w (w.alloc (.cells #[.string (S s)] 9)) := nb0 _ _; have hcell : (w.alloc (.cells #[.string (S s)] 9)).cell? ⟨w.heap.size, 0, none⟩ = some (.string (S s)) := by simp
 have HC := hid (jrp l (isName s) a c 146 #[.pointer (some ⟨w.heap.size, 0, none⟩)] eg (w.alloc (.cells #[.string (S s)] 9)) Q (hL.next b8)
  (fun b v u hu => jgf s b.name b.next v w.heap.size u (ja hcell hu)))
 have bX := hid b8; clear hL b8 hcell; go_enter Tryz.func97, Tryz.ntmps97; go_wp2_with fail; refine HC.out.mono ?_; rintro e w2 ⟨rfl, hb⟩; have bY := hid (bX.out.trans (hb.mono bX.out.size)); clear hb; simp only; go_wp2; go_ret; exact ⟨rfl, bY.out⟩
theorem jjB {l : List Bx} {b : Bx} (h : l[k]? = some b) : j4 (l.take (k + 1)) = j4 (l.take k) + zd b.mails := by
 have hk : k < l.length := (au.1 h).1; rw [aU hk, jcV, (au.1 h).2]
 simp [j4]
theorem jjC {l : List Mail} {b : Mail} (h : l[k]? = some b) : zd (l.take (k + 1)) = zd (l.take k) + b.text.length := by
 have hk : k < l.length := (au.1 h).1; rw [aU hk, jbz, (au.1 h).2]
 simp [zd]
theorem jo7 (h : w.heap[p]? = some (.cells #[v0, v1, v2] t)) : w.cell? ⟨p, 0, none⟩ = some v0 /\ w.cell? ⟨p, 1, none⟩ = some v1 /\ w.cell? ⟨p, 2, none⟩ = some v2 := by
 refine ⟨?_, ?_, ?_⟩ <;> simp [World.cell?, h]
theorem jdM (l : List Bx) (a : Option Addr) (c : Nat) (w : World) (Q : Nat -> Prop) (hL : BoxsM Q w (.slice a l.length c) l) (hz : j4 l <= 6000) :
 Calls Tryz.prog 142 #[.slice a l.length c] w fun e w' => e = .returned (.int .i64 (j4 l : Nat)) /\ Below w.heap.size w w' := by
 have hm := RowM.small hL; have HL := hid hL; unfold maxLen at hm; clear hL; go_enter Tryz.func142, Tryz.ntmps142; go_wp2
 go_loopw [3, 10] (fun n v wr => ∃ i : Nat, i <= l.length /\ v = .int .i64 i /\ n = .int .i64 (j4 (l.take i) : Nat) /\ Hid (Below w.heap.size w wr)) (fun _ v _ => l.length - (intOf v).toNat)
 case atStart => exact ⟨0, aQ _, rfl, rfl, ay _ _⟩
 case round =>
  obtain ⟨i, hi, rfl, rfl, HB⟩ := hrel
  by_cases hlt : i < l.length
  . have i1 : (i : Int) < (l.length : Int) := by omega
    have i0 : (0 : Int) <= (i : Int) := by omega
    obtain ⟨x, hx⟩ : ∃ x, l[i]? = some x := ⟨_, aw hlt⟩; obtain ⟨b, o, v, rfl, _, e0, e1, e2, hM⟩ := (HL.out.next HB.out).at hx; obtain ⟨am, cm, rfl⟩ := RowM.slice hM; have hsm := RowM.small hM; unfold maxLen at hsm; have HM := hid hM; have HS := hid (jjB hx); have hle : j4 (l.take i) + zd x.mails <= 6000 := by rw [<- HS.out]; exact aN (jeB l (i + 1)) hz
    obtain ⟨wo, rfl⟩ : ∃ W, W = wr := ⟨_, rfl⟩; have bX := hid (show Below wo.heap.size wo (wo.alloc (.cells #[.string (S x.name), .int .i64 x.next, .slice am x.mails.length cm] 40)) from nb0 _ _); clear hM hx; go_wp2
    go_loopw [3, 17] (fun n v wr => ∃ j : Nat, j <= x.mails.length /\ v = .int .i64 j /\ n = .int .i64 (j4 (l.take i) + zd (x.mails.take j) : Nat) /\ Hid (Below wo.heap.size wo wr)) (fun _ v _ => x.mails.length - (intOf v).toNat)
    case atStart => exact ⟨0, aQ _, rfl, rfl, bX⟩
    case round =>
        obtain ⟨j, hj, rfl, rfl, bY⟩ := hrel
        by_cases Cm : j < x.mails.length
        . have j1 : (j : Int) < (x.mails.length : Int) := by omega
          have j0 : (0 : Int) <= (j : Int) := by omega
          obtain ⟨m, lK⟩ : ∃ m, x.mails[j]? = some m := ⟨_, aw Cm⟩; obtain ⟨b', o', rfl, _, k0, k1, k2⟩ := (HM.out.next bY.out).at lK; have HT := hid (jjC lK); have we : zd (x.mails.take j) + m.text.length <= zd x.mails := by rw [<- HT.out]; exact jeC _ _
          have hr1 : (0 : Int) <= ((j4 (l.take i) + zd (x.mails.take j) : Nat) : Int) := by omega
          have hr2 : ((j4 (l.take i) + zd (x.mails.take j) : Nat) : Int) + ((S m.text).size : Int) <= 6000 := by rw [jb]; omega
          have HE := hid (show ((j4 (l.take i) + zd (x.mails.take j) : Nat) : Int) + ((S m.text).size : Int) = ((j4 (l.take i) + zd (x.mails.take (j + 1)) : Nat) : Int) by rw [jb, HT.out]; omega); have bZ := hid (show ∀ o : Obj, Below wo.heap.size wo (wr.alloc o) from fun o => bY.out.alloc bY.out.size o); clear lK we; generalize ((j4 (l.take i) + zd (x.mails.take j) : Nat) : Int) = q at *; go_wp2; rw [HE.out]
          go_roundw
          case rel => first | exact ⟨j + 1, by omega, by go_num, rfl, bZ.out _⟩ | ((repeat apply Exists.intro); exact ⟨⟨j + 1, by omega, by go_num, rfl, bZ.out _⟩, rfl⟩)
          case measure => simp [intOf]; omega
        . have j1 : ¬ (j : Int) < (x.mails.length : Int) := by omega
          have HE := hid (show j4 (l.take i) + zd (x.mails.take j) = j4 (l.take (i + 1)) by rw [HS.out, aV (l := x.mails) (by omega)]); have bZ := hid (show Below w.heap.size w wr from HB.out.trans (bY.out.mono HB.out.size)); go_wp2; rw [HE.out]
          go_roundw
          case rel => first | exact ⟨i + 1, by omega, by go_num, rfl, bZ⟩ | ((repeat apply Exists.intro); exact ⟨⟨i + 1, by omega, by go_num, rfl, bZ⟩, rfl⟩)
          case measure => simp [intOf]; omega
  . have i1 : ¬ (i : Int) < (l.length : Int) := by omega
    have HE := hid (show j4 (l.take i) = j4 l by rw [aV (by omega)]); go_wp2; go_ret; exact ⟨jd (by rw [HE.out]), HB.out⟩
theorem jb4 (n : Int) (w : World) :
 Calls Tryz.prog 79 #[.int .i64 n] w fun e w' => e = .returned (.bool (decide (0 <= n) && decide (n <= 31))) /\ w' = w := by
 by_cases h1 : 0 <= n
 . by_cases h2 : n <= 31
   . go_enter Tryz.func79, Tryz.ntmps79; go_wp2; go_ret; exact ⟨by simp [h1, h2], rfl⟩
   . go_enter Tryz.func79, Tryz.ntmps79; go_wp2; go_ret; exact ⟨by simp [h2], rfl⟩
 . have HF : Hid (decide (0 <= n) = false) := decide_eq_false h1; go_enter Tryz.func79, Tryz.ntmps79; go_wp2; go_ret; exact ⟨by rw [HF.out]; rfl, rfl⟩
def jgG (last : Int) (l : List Mail) : Nat -> Int
 | 0 => last
 | k + 1 => match l[k]? with
   | some m => m.uid
   | none => last
theorem ji2 (last : Int) (m : Mail) (l : List Mail) (k : Nat) (hk : k <= l.length) : jgG last (m :: l) (k + 1) = jgG m.uid l k := by
 cases k with
 | zero => rfl
 | succ k =>
   simp only [jgG, bR]; rw [aw (by omega)]
theorem jnU {next : Int} : ∀ (l : List Mail) (last : Int) (k : Nat) (m : Mail), jch last next l -> l[k]? = some m -> jgG last l k < m.uid /\ m.uid < next /\ 0 <= m.flags /\ m.flags <= 31 /\ m.text.length <= 2000 := by
 intro l
 induction l with
 | nil => intro _ k m _ h; simp at h
 | cons c l ih =>
   intro last k m ⟨k1, k2, k3, k4, k5, k6⟩ h; cases k with
   | zero => simp at h; subst h; exact ⟨k1, k2, k3, k4, k5⟩
   | succ k =>
     simp only [bR] at h; rw [ji2 _ _ _ _ (bi (au.1 h).1)]; exact ih _ k m k6 h
theorem jgk (b : Bx) (v : Value) (w : World) (Q : Nat -> Prop) (hL : MailsM Q w v b.mails) (hM : BoxMay b) :
 Calls Tryz.prog 141 #[.agg #[.string (S b.name), .int .i64 b.next, v]] w fun e w' => e = .returned (.bool true) /\ Below w.heap.size w w' := by
 obtain ⟨a, c, rfl⟩ := RowM.slice hL; obtain ⟨W1, hW1⟩ : ∃ W1, W1 = w.alloc (.cells #[.string (S b.name), .int .i64 b.next, .slice a b.mails.length c] 40) := ⟨_, rfl⟩; have b9 := hid hW1; have b8 : Below w.heap.size w W1 := by rw [hW1]; exact nb0 _ _
 have hX : W1.heap[w.heap.size]? = some (.cells #[.string (S b.name), .int .i64 b.next, .slice a b.mails.length c] 40) := by rw [hW1]; exact az w _
 have HX := hid hX; have bX := hid b8; have HL := hid (hL.next b8); have HN := hid (show vu (S b.name).data.toList = 0 by rw [ji]; exact hM.name); have n1 : ¬ b.next < 1 := by have := hM.next; omega
 have n2 : ¬ 1048577 < b.next := by have := hM.next; omega
 have n3 : ¬ (30 : Int) < (b.mails.length : Int) := by have := hM.many; omega
 have HR := hid hM.mails; obtain ⟨x0, x1, x2⟩ := jo7 hX; clear hL hW1 hX hM b8; go_enter Tryz.func141, Tryz.ntmps141; go_wp2_with fail; rw [<- b9.out]; refine (jcQ (S b.name) W1).mono ?_; rintro e u ⟨rfl, hu⟩; have b6 := hu.symm; subst b6; rw [HN.out]; clear hu; go_wp2
 go_loopw [3, 29] (fun n v wr => ∃ i : Nat, i <= b.mails.length /\ v = .int .i64 i /\ n = .int .i64 (jgG 0 b.mails i) /\ Hid (Below W1.heap.size W1 wr)) (fun _ v _ => b.mails.length - (intOf v).toNat)
 case atStart => exact ⟨0, aQ _, rfl, rfl, ay _ _⟩
 case round =>
  obtain ⟨i, hi, rfl, rfl, HB⟩ := hrel; have y1 := ja x1 HB.out
  by_cases hlt : i < b.mails.length
  . have i1 : (i : Int) < (b.mails.length : Int) := by omega
    have i0 : (0 : Int) <= (i : Int) := by omega
    obtain ⟨m, hm⟩ : ∃ m, b.mails[i]? = some m := ⟨_, aw hlt⟩; obtain ⟨p, o, rfl, _, e0, e1, e2⟩ := (HL.out.next HB.out).at hm; obtain ⟨r1, r2, r3, r4, r5⟩ := jnU _ _ _ _ HR.out hm; have HU := hid (show jgG 0 b.mails (i + 1) = m.uid by show (match b.mails[i]? with | some m => m.uid | none => 0) = m.uid; rw [hm]); generalize jgG 0 b.mails i = q at *; have c1 : ¬ m.uid <= q := by omega
    have c2 : ¬ b.next <= m.uid := by omega
    have c3 : ¬ (2000 : Int) < ((S m.text).size : Int) := by rw [jb]; omega
    have AH := hid (show (decide (0 <= m.flags) && decide (m.flags <= 31)) = true by simp [r3, r4]); obtain ⟨W2, hW2⟩ : ∃ W2, W2 = wr.alloc (.cells #[.int .i64 m.uid, .int .i64 m.flags, .string (S m.text)] 47) := ⟨_, rfl⟩; have eB := hid hW2; have b7 : Below wr.heap.size wr W2 := by rw [hW2]; exact nb0 _ _
    have eA : W2.heap[wr.heap.size]? = some (.cells #[.int .i64 m.uid, .int .i64 m.flags, .string (S m.text)] 47) := by rw [hW2]; exact az wr _
    have z1 := ja y1 b7; have y1a := jl y1 (.cells #[.int .i64 m.uid, .int .i64 m.flags, .string (S m.text)] 47); have hne : w.heap.size ≠ wr.heap.size := Nat.ne_of_lt (aG _ _ y1); obtain ⟨m0, m1, m2⟩ := jo7 eA; have bZ := hid (show Below W1.heap.size W1 W2 from HB.out.trans (b7.mono HB.out.size)); clear hm hW2 eA b7 r3 r4; go_wp2_with fail; rw [<- eB.out]; refine (jb4 m.flags W2).mono ?_; rintro e u ⟨rfl, hu⟩; have b6 := hu.symm; subst b6; rw [AH.out]; clear hu; go_wp2
    go_roundw
    case rel => first | exact ⟨i + 1, by omega, by go_num, by rw [HU.out], bZ⟩ | ((repeat apply Exists.intro); exact ⟨⟨i + 1, by omega, by go_num, by rw [HU.out], bZ⟩, rfl⟩)
    case measure => simp [intOf]; omega
  . have i1 : ¬ (i : Int) < (b.mails.length : Int) := by omega
    have HE := hid (show Below w.heap.size w wr from bX.out.trans (HB.out.mono bX.out.size)); go_wp2; go_ret; exact ⟨rfl, HE.out⟩
def ibN : List UInt8 := [73, 78, 66, 79, 88]
theorem joE (a : Option Addr) (c : Nat) (f : Value) (w : World) :
 Calls Tryz.prog 143 #[.slice a 0 c, f] w fun e w' => e = .returned (.bool false) /\ Below w.heap.size w w' := by
 have HI : Hid (∀ (u : World), Calls Tryz.prog 185 #[.slice a 0 c, f] u fun e w' => e = .returned (.int .i64 (-1)) /\ Below u.heap.size u w') := fun u => by
  go_enter Tryz.func185, Tryz.ntmps185; go_wp2
  go_loopw [8] (fun v wr => v = .int .i64 0 /\ Hid (Below u.heap.size u wr)) (fun _ _ => 0)
  case atStart => exact ⟨rfl, ay _ _⟩
  case round =>
   obtain ⟨rfl, HB⟩ := hrel; go_wp2; go_ret; exact ⟨rfl, HB.out⟩
 go_enter Tryz.func143, Tryz.ntmps143; go_wp2_with fail; refine (HI.out _).mono ?_; rintro e w1 ⟨rfl, hb⟩; have HB := hid hb; clear hb; go_wp2; go_ret; exact ⟨by first | rfl | simp, HB.out⟩
theorem hx6 {v3 v4 v5 : Value} (h : w.heap[p]? = some (.cells #[v0, v1, v2, v3, v4, v5] t)) : w.cell? ⟨p, 0, none⟩ = some v0 /\ w.cell? ⟨p, 1, none⟩ = some v1 /\ w.cell? ⟨p, 2, none⟩ = some v2 /\ w.cell? ⟨p, 3, none⟩ = some v3 /\ w.cell? ⟨p, 4, none⟩ = some v4 /\ w.cell? ⟨p, 5, none⟩ = some v5 := by
 refine ⟨?_, ?_, ?_, ?_, ?_, ?_⟩ <;> simp [World.cell?, h]
theorem jmH (bx t : List UInt8) (f : Int) (w : World) : Calls Tryz.prog 78 #[.agg #[.int .i64 2, .string (S bx), .int .i64 0, .int .i64 f, .string ⟨#[]⟩, .string (S t)]] w fun e w' => e = .returned (.agg #[.int .i64 2, .string (S bx), .int .i64 0, .int .i64 f, .string ⟨#[]⟩, .string (S t)]) /\ Below w.heap.size w w' := by
 have HB := hid (show ∀ a b c : Obj, Below w.heap.size w (((w.alloc a).alloc b).alloc c) from fun a b c => (((ay _ _).alloc (ai _) a).alloc (by simp) b).alloc (by simp; omega) c); go_enter Tryz.func78, Tryz.ntmps78; go_wp2
 go_region_law (fail)
 all_goals
  go_wp2; refine aD (v := .agg #[.int .i64 2, .string (S bx), .int .i64 0, .int .i64 f, .string ⟨#[]⟩, .string (S t)]) (by simp [results, Tryz.results78, go_sem, *]) rfl ?_
  first | exact ⟨rfl, HB.out _ _ _⟩ | exact ⟨rfl, (HB.out _ _ _).drew⟩
theorem jhI (tx : List UInt8) (w : World) (h : tx.length <= 2000) :
 Calls Tryz.prog 51 #[.agg #[.int .i64 2, .string (S ibN), .int .i64 0, .int .i64 0, .string ⟨#[]⟩, .string (S tx)]] w fun e w' => e = .returned (.int .i64 0) /\ Below w.heap.size w w' := by
 obtain ⟨W1, hW1⟩ : ∃ W1, W1 = w.alloc (.cells #[.int .i64 2, .string (S ibN), .int .i64 0, .int .i64 0, .string ⟨#[]⟩, .string (S tx)] 32) := ⟨_, rfl⟩; have b9 := hid hW1; have bX := hid (show Below w.heap.size w W1 by rw [hW1]; exact nb0 _ _); have hX : W1.heap[w.heap.size]? = some (.cells #[.int .i64 2, .string (S ibN), .int .i64 0, .int .i64 0, .string ⟨#[]⟩, .string (S tx)] 32) := by rw [hW1]; exact az w _
 have HX := hid hX; obtain ⟨x0, x1, x2, x3, x4, x5⟩ := hx6 hX; have t1 : ¬ (2000 : Int) < ((S tx).size : Int) := by rw [jb]; omega
 have cX := hid (fun u : World => jmH ibN tx 0 u); have HN := hid (show vu (S ibN).data.toList = 0 by rw [ji]; decide); clear h hW1 hX; go_enter Tryz.func51, Tryz.ntmps51; go_wp2; rw [<- b9.out]
 go_cut [1, 2, 12] (fun a b c wx => a = .pointer (some ⟨w.heap.size, 0, none⟩) /\ c = .bool false /\ Below W1.heap.size W1 wx)
 case first =>
  go_region_held3 (fun w' => w'.cell? ⟨w.heap.size, 0, none⟩ = some (.int .i64 2) /\ w'.cell? ⟨w.heap.size, 1, none⟩ = some (.string (S ibN)) /\ w'.cell? ⟨w.heap.size, 2, none⟩ = some (.int .i64 0) /\ w'.cell? ⟨w.heap.size, 3, none⟩ = some (.int .i64 0) /\ w'.cell? ⟨w.heap.size, 4, none⟩ = some (.string ⟨#[]⟩) /\ w'.cell? ⟨w.heap.size, 5, none⟩ = some (.string (S tx))) (go_keep)
   (first
        | (go_at_call 78
           with_reducible refine (cX.out W1.drew).mono ?_
           rintro e w2 ⟨rfl, hb⟩; have hb2 : Below W1.heap.size W1 w2 := (ay _ _).drew.trans hb; have bY := hid hb2; have z0 := ja x0 hb2; have z1 := ja x1 hb2; have z2 := ja x2 hb2; have z3 := ja x3 hb2; have z4 := ja x4 hb2; have z5 := ja x5 hb2; clear hb hb2))
  all_goals
   go_wp2_with fail
   go_meet
   exact ⟨rfl, by first | rfl | simp, bY.out⟩
 case rest =>
  obtain ⟨rfl, rfl, hb⟩ := hcut; have z2 := ja x2 hb; have z3 := ja x3 hb; have z5 := ja x5 hb; have df := (hb.block w.heap.size (aG _ _ x0)).trans HX.out; obtain ⟨z0, _, _, _, z4, _⟩ := hx6 df; have z1 := ja x1 hb; have bY := hid (bX.out.trans (hb.mono bX.out.size)); clear hb df cX; go_wp2_with fail; refine (jb4 0 wc).mono ?_; rintro e u ⟨rfl, hu⟩; have b6 := hu.symm; subst b6; clear hu; have kL : Hid (Calls Tryz.prog 80 #[.agg #[.int .i64 2, .string (S ibN), .int .i64 0, .int .i64 0, .string ⟨#[]⟩, .string (S tx)]] wc fun e w' => e = .returned (.int .i64 0) /\ Below wc.heap.size wc w') := by
   obtain ⟨W1, hW1⟩ : ∃ W1, W1 = wc.alloc (.cells #[.int .i64 2, .string (S ibN), .int .i64 0, .int .i64 0, .string ⟨#[]⟩, .string (S tx)] 32) := ⟨_, rfl⟩; have b9 := hid hW1; have bX := hid (show Below wc.heap.size wc W1 by rw [hW1]; exact nb0 _ _); have hX : W1.heap[wc.heap.size]? = some (.cells #[.int .i64 2, .string (S ibN), .int .i64 0, .int .i64 0, .string ⟨#[]⟩, .string (S tx)] 32) := by rw [hW1]; exact az wc _
   obtain ⟨x0, x1, x2, x3, x4, x5⟩ := hx6 hX; clear hW1 hX; go_enter Tryz.func80, Tryz.ntmps80; go_wp2_with fail; rw [<- b9.out]; refine (jcQ (S ibN) W1).mono ?_; rintro e u ⟨rfl, hu⟩; have b6 := hu.symm; subst b6; rw [HN.out]; clear hu; go_wp2; go_ret; exact ⟨rfl, bX.out⟩
  go_wp2_with fail; refine kL.out.mono ?_; rintro e w3 ⟨rfl, hb3⟩; have bZ := hid (bY.out.trans (hb3.mono bY.out.size)); clear hb3; go_wp2; go_ret; exact ⟨rfl, bZ.out⟩
theorem jpx (x : Ent) (w : World) (h : Formed x) :
 Calls Tryz.prog 51 #[.agg #[.int .i64 x.kind, .string (S x.box), .int .i64 x.uid, .int .i64 x.flags, .string (S x.goal), .string (S x.text)]] w fun e w' => e = .returned (.int .i64 0) /\ Below w.heap.size w w' := by
 have e := h.one; have ht := h.text; generalize x.text = t at *; subst e; exact jhI t w ht
theorem jd7 : ∀ {css : List (List Value)} {j : Nat} {u : Value}, (∀ c ∈ css, c.length = k) -> css.flatten[j]? = some u -> ∃ i r cs, j = i * k + r /\ r < k /\ css[i]? = some cs /\ cs[r]? = some u := by
 intro css
 induction css with
 | nil => intro j u _ h; simp at h
 | cons c css ih =>
   intro j u hk h; have hc : c.length = k := hk c (by simp); simp only [bw] at h
   rcases bz j k with hj | hj
   . rw [bf (by omega)] at h; exact ⟨0, j, c, by omega, hj, rfl, h⟩
   . rw [bd (by omega), hc] at h; obtain ⟨i, r, cs, e, hr, h1, h2⟩ := ih (fun c hc => hk c (by simp [hc])) h; exact ⟨i + 1, r, cs, by rw [Nat.add_mul]; omega, hr, by simpa using h1, h2⟩
theorem jd8 : ∀ {css : List (List Value)}, (∀ c ∈ css, c.length = k) -> css.flatten.length = css.length * k := by
 intro css
 induction css with
 | nil => intro _; simp
 | cons c css ih =>
   intro h; rw [bw, aB, ih fun c hc => h c (by simp [hc]), h c (by simp), aI, Nat.add_mul]; omega
theorem jns (l : List Mail) : ∀ u ∈ (l.map jaT).flatten, u.oneCell' = true := by
 intro u hu; obtain ⟨cs, hcs, hu⟩ := List.mem_flatten.1 hu; obtain ⟨m, _, rfl⟩ := bE.1 hcs; simp only [jaT, bV, bW, or_false] at hu
 rcases hu with rfl | rfl | rfl <;> rfl
theorem jps (l : List Ent) : ∀ u ∈ (l.map entC).flatten, u.oneCell' = true := by
 intro u hu; obtain ⟨cs, hcs, hu⟩ := List.mem_flatten.1 hu; obtain ⟨m, _, rfl⟩ := bE.1 hcs; simp only [entC, bV, bW, or_false] at hu
 rcases hu with rfl | rfl | rfl | rfl | rfl | rfl <;> rfl
theorem joH : (Tryz.prog.info? 47).map (fun i => (i.zero, i.size, i.bytes)) = some (some (.agg #[.int .i64 0, .int .i64 0, .string ByteArray.empty]), 3, 32) := by kernel_rfl
theorem jqA : (Tryz.prog.info? 40).map (fun i => (i.zero, i.size, i.bytes)) = some (some (.agg #[.string ByteArray.empty, .int .i64 0, .slice none 0 0]), 3, 48) := by kernel_rfl
theorem jqC : (Tryz.prog.info? 32).map (fun i => (i.zero, i.size, i.bytes)) = some (some (.agg #[.int .i64 0, .string ByteArray.empty, .int .i64 0, .int .i64 0, .string ByteArray.empty, .string ByteArray.empty]), 6, 72) := by kernel_rfl
theorem jph (ad : Addr) (n c : Nat) (news : List Value) (w : World) (hl : news.length = n * 3) (hn : n <= 1000) (hc : ∀ j u, news[j]? = some u -> w.cell? (ad.add j) = some u) (h1 : ∀ u ∈ news, u.oneCell' = true) :
 Calls Tryz.prog 94 #[.slice (some ad) n c] w fun e w' => ∃ v', e = .returned v' /\ (w'.ownsRow w.heap.size 47 3 v' n news) /\ Below w.heap.size w w' := by
 obtain ⟨i0, hi, hz0, hz1, hz2⟩ := info_parts joH; have q22 : ∀ (w : World) (a : Option Addr) (n c n' c' : Nat), (binOp .eql 38 (.slice a n c) (.slice none n' c')).run Tryz.prog w = .ok (.bool a.isNone) w := fun w a n c n' c' => Lib.run_eql_slice_nil w _ _ a n c n' c' Tryz.underlying38
 have HC := hid hc; have H1 := hid h1; have HL := hid hl; clear hc h1 hl; go_enter Tryz.func94, Tryz.ntmps94
 go_wp2_with (at_builtin; refine wpList_append_own _ rfl _ _ 38 rfl w.heap.size 47 i0 _ 3 32 Tryz.underlying38 hi hz0 hz1 hz2 rfl (by decide) _ _ _ rfl (World.ownsRow_made w #[] 0 (ai _) (aQ _) rfl) ad n c news rfl ?qc1 ?qc2 ?qc3 ?qc4 ?qc5 ?qc6 ?_)
 case qc1 => exact HL.out
 case qc2 => exact fun j u hj => Lib.cell?_alloc_some _ (HC.out j u hj)
 case qc3 => exact H1.out
 case qc4 => unfold maxLen; omega
 case qc5 => omega
 case qc6 => simp
 intro v' w1 hown hgrow hnil; have HO := hid hown; have HB := hid (show Below w.heap.size w w1 from ((ay _ w).alloc (ai _) _).grown hgrow (by simp) (by intro k hk; simp [Value.ownBlock] at hk; omega)); clear hown hgrow hnil; go_wp2; go_ret; exact ⟨v', rfl, by simpa using HO.out, HB.out⟩
theorem jgt (n c : Nat) (w : World) :
 Calls Tryz.prog 94 #[.slice none n c] w fun e w' => e = .returned (.slice none 0 0) /\ w' = w := by
 have q22 : ∀ (w : World) (a : Option Addr) (n c n' c' : Nat), (binOp .eql 38 (.slice a n c) (.slice none n' c')).run Tryz.prog w = .ok (.bool a.isNone) w := fun w a n c n' c' => Lib.run_eql_slice_nil w _ _ a n c n' c' Tryz.underlying38
 go_enter Tryz.func94, Tryz.ntmps94; go_wp2; go_ret; exact ⟨rfl, rfl⟩
theorem jpf (ad : Addr) (n c : Nat) (news : List Value) (w : World) (hl : news.length = n * 3) (hn : n <= 1000) (hc : ∀ j u, news[j]? = some u -> w.cell? (ad.add j) = some u) (h1 : ∀ u ∈ news, u.oneCell' = true) :
 Calls Tryz.prog 92 #[.slice (some ad) n c] w fun e w' => ∃ v', e = .returned v' /\ (w'.ownsRow w.heap.size 40 3 v' n news) /\ Below w.heap.size w w' := by
 obtain ⟨i0, hi, hz0, hz1, hz2⟩ := info_parts jqA; have q22 : ∀ (w : World) (a : Option Addr) (n c n' c' : Nat), (binOp .eql 41 (.slice a n c) (.slice none n' c')).run Tryz.prog w = .ok (.bool a.isNone) w := fun w a n c n' c' => Lib.run_eql_slice_nil w _ _ a n c n' c' Tryz.underlying41
 have HC := hid hc; have H1 := hid h1; have HL := hid hl; clear hc h1 hl; go_enter Tryz.func92, Tryz.ntmps92
 go_wp2_with (at_builtin; refine wpList_append_own _ rfl _ _ 41 rfl w.heap.size 40 i0 _ 3 48 Tryz.underlying41 hi hz0 hz1 hz2 rfl (by decide) _ _ _ rfl (World.ownsRow_made w #[] 0 (ai _) (aQ _) rfl) ad n c news rfl ?qc1 ?qc2 ?qc3 ?qc4 ?qc5 ?qc6 ?_)
 case qc1 => exact HL.out
 case qc2 => exact fun j u hj => Lib.cell?_alloc_some _ (HC.out j u hj)
 case qc3 => exact H1.out
 case qc4 => unfold maxLen; omega
 case qc5 => omega
 case qc6 => simp
 intro v' w1 hown hgrow hnil; have HO := hid hown; have HB := hid (show Below w.heap.size w w1 from ((ay _ w).alloc (ai _) _).grown hgrow (by simp) (by intro k hk; simp [Value.ownBlock] at hk; omega)); clear hown hgrow hnil; go_wp2; go_ret; exact ⟨v', rfl, by simpa using HO.out, HB.out⟩
theorem jgr (n c : Nat) (w : World) :
 Calls Tryz.prog 92 #[.slice none n c] w fun e w' => e = .returned (.slice none 0 0) /\ w' = w := by
 have q22 : ∀ (w : World) (a : Option Addr) (n c n' c' : Nat), (binOp .eql 41 (.slice a n c) (.slice none n' c')).run Tryz.prog w = .ok (.bool a.isNone) w := fun w a n c n' c' => Lib.run_eql_slice_nil w _ _ a n c n' c' Tryz.underlying41
 go_enter Tryz.func92, Tryz.ntmps92; go_wp2; go_ret; exact ⟨rfl, rfl⟩
theorem jpg (ad : Addr) (n c : Nat) (news : List Value) (w : World) (hl : news.length = n * 6) (hn : n <= 1000) (hc : ∀ j u, news[j]? = some u -> w.cell? (ad.add j) = some u) (h1 : ∀ u ∈ news, u.oneCell' = true) :
 Calls Tryz.prog 93 #[.slice (some ad) n c] w fun e w' => ∃ v', e = .returned v' /\ (w'.ownsRow w.heap.size 32 6 v' n news) /\ Below w.heap.size w w' := by
 obtain ⟨i0, hi, hz0, hz1, hz2⟩ := info_parts jqC; have q22 : ∀ (w : World) (a : Option Addr) (n c n' c' : Nat), (binOp .eql 42 (.slice a n c) (.slice none n' c')).run Tryz.prog w = .ok (.bool a.isNone) w := fun w a n c n' c' => Lib.run_eql_slice_nil w _ _ a n c n' c' Tryz.underlying42
 have HC := hid hc; have H1 := hid h1; have HL := hid hl; clear hc h1 hl; go_enter Tryz.func93, Tryz.ntmps93
 go_wp2_with (at_builtin; refine wpList_append_own _ rfl _ _ 42 rfl w.heap.size 32 i0 _ 6 72 Tryz.underlying42 hi hz0 hz1 hz2 rfl (by decide) _ _ _ rfl (World.ownsRow_made w #[] 0 (ai _) (aQ _) rfl) ad n c news rfl ?qc1 ?qc2 ?qc3 ?qc4 ?qc5 ?qc6 ?_)
 case qc1 => exact HL.out
 case qc2 => exact fun j u hj => Lib.cell?_alloc_some _ (HC.out j u hj)
 case qc3 => exact H1.out
 case qc4 => unfold maxLen; omega
 case qc5 => omega
 case qc6 => simp
 intro v' w1 hown hgrow hnil; have HO := hid hown; have HB := hid (show Below w.heap.size w w1 from ((ay _ w).alloc (ai _) _).grown hgrow (by simp) (by intro k hk; simp [Value.ownBlock] at hk; omega)); clear hown hgrow hnil; go_wp2; go_ret; exact ⟨v', rfl, by simpa using HO.out, HB.out⟩
theorem jgs (n c : Nat) (w : World) :
 Calls Tryz.prog 93 #[.slice none n c] w fun e w' => e = .returned (.slice none 0 0) /\ w' = w := by
 have q22 : ∀ (w : World) (a : Option Addr) (n c n' c' : Nat), (binOp .eql 42 (.slice a n c) (.slice none n' c')).run Tryz.prog w = .ok (.bool a.isNone) w := fun w a n c n' c' => Lib.run_eql_slice_nil w _ _ a n c n' c' Tryz.underlying42
 go_enter Tryz.func93, Tryz.ntmps93; go_wp2; go_ret; exact ⟨rfl, rfl⟩
def ClM (w : World) (l : List Mail) (e : Ending) (w' : World) : Prop := ∃ v', e = .returned v' /\ (w'.ownsRow w.heap.size 47 3 v' l.length (l.map jaT).flatten) /\ Below w.heap.size w w'
def ClE (w : World) (l : List Ent) (e : Ending) (w' : World) : Prop := ∃ v', e = .returned v' /\ (w'.ownsRow w.heap.size 32 6 v' l.length (l.map entC).flatten) /\ Below w.heap.size w w'
def ClB (Q : Nat -> Prop) (w : World) (l : List Bx) (e : Ending) (w' : World) : Prop := ∃ v' vm, e = .returned v' /\ (w'.ownsRow w.heap.size 40 3 v' l.length (bxCs l vm).flatten) /\ vm.length = l.length /\ (∀ (i : Nat) b v, l[i]? = some b -> vm[i]? = some v -> MailsM Q w v b.mails) /\ Below w.heap.size w w'
theorem jqv (l : List Mail) (v : Value) (w : World) (Q : Nat -> Prop) (h : MailsM Q w v l) (hm : l.length <= 1000) : Calls Tryz.prog 94 #[v] w (ClM w l) := by
 obtain ⟨a, c, rfl⟩ := RowM.slice h; cases a with
 | none =>
   have hl : l = [] := by
    cases l with
    | nil => rfl
    | cons x r => obtain ⟨_, _, e, _⟩ := h.at (i := 0) (x := x) rfl; cases e
   subst hl; refine (jgt 0 c w).mono ?_; rintro e w' ⟨rfl, rfl⟩; exact ⟨_, rfl, aR _ _ _ _, ay _ _⟩
 | some ad =>
   refine (jph ad l.length c ((l.map jaT).flatten) w ?_ hm ?_ (jns l)).mono ?_
   . rw [jd8 (zI (k := 3) jaT (fun _ => rfl) l), bI]
   . intro j u hj; obtain ⟨i, r, cs, rfl, hr, h1, h2⟩ := jd7 (zI (k := 3) jaT (fun _ => rfl) l) hj; rw [ba] at h1; obtain ⟨x, hx, rfl⟩ := Option.map_eq_some_iff.1 h1; obtain ⟨b, o, e, _, c0, c1, c2⟩ := h.at hx; cases e; rw [bg]
     match r, hr, h2 with
     | 0, _, h2 => cases h2; simpa using c0
     | 1, _, h2 => cases h2; simpa [Nat.add_assoc] using c1
     | 2, _, h2 => cases h2; simpa [Nat.add_assoc] using c2
   . rintro e w' ⟨v', rfl, ho, hb⟩; exact ⟨v', rfl, ho, hb⟩
theorem jqu (l : List Ent) (v : Value) (w : World) (Q : Nat -> Prop) (h : EntsM Q w v l) (hm : l.length <= 1000) : Calls Tryz.prog 93 #[v] w (ClE w l) := by
 obtain ⟨a, c, rfl⟩ := RowM.slice h; cases a with
 | none =>
   have hl : l = [] := by
    cases l with
    | nil => rfl
    | cons x r => obtain ⟨_, _, e, _⟩ := h.at (i := 0) (x := x) rfl; cases e
   subst hl; refine (jgs 0 c w).mono ?_; rintro e w' ⟨rfl, rfl⟩; exact ⟨_, rfl, aR _ _ _ _, ay _ _⟩
 | some ad =>
   refine (jpg ad l.length c ((l.map entC).flatten) w ?_ hm ?_ (jps l)).mono ?_
   . rw [jd8 (zI (k := 6) entC (fun _ => rfl) l), bI]
   . intro j u hj; obtain ⟨i, r, cs, rfl, hr, h1, h2⟩ := jd7 (zI (k := 6) entC (fun _ => rfl) l) hj; rw [ba] at h1; obtain ⟨x, hx, rfl⟩ := Option.map_eq_some_iff.1 h1; obtain ⟨b, o, e, _, c0, c1, c2, c3, c4, c5⟩ := h.at hx; cases e; rw [bg]
     match r, hr, h2 with
     | 0, _, h2 => cases h2; simpa using c0
     | 1, _, h2 => cases h2; simpa [Nat.add_assoc] using c1
     | 2, _, h2 => cases h2; simpa [Nat.add_assoc] using c2
     | 3, _, h2 => cases h2; simpa [Nat.add_assoc] using c3
     | 4, _, h2 => cases h2; simpa [Nat.add_assoc] using c4
     | 5, _, h2 => cases h2; simpa [Nat.add_assoc] using c5
   . rintro e w' ⟨v', rfl, ho, hb⟩; exact ⟨v', rfl, ho, hb⟩
theorem jqt (l : List Bx) (v : Value) (w : World) (Q : Nat -> Prop) (h : BoxsM Q w v l) (hm : l.length <= 1000) : Calls Tryz.prog 92 #[v] w (ClB Q w l) := by
 obtain ⟨a, c, rfl⟩ := RowM.slice h; cases a with
 | none =>
   have hl : l = [] := by
    cases l with
    | nil => rfl
    | cons x r => obtain ⟨_, _, _, e, _⟩ := h.at (i := 0) (x := x) rfl; cases e
   subst hl; refine (jgr 0 c w).mono ?_; rintro e w' ⟨rfl, rfl⟩; exact ⟨_, [], rfl, aR _ _ _ _, rfl, fun i b v hb => by simp at hb, ay _ _⟩
 | some ad =>
   have rg : ∀ (i : Nat) x, l[i]? = some x -> ∃ v, ((List.range l.length).map fun i => (w.cell? (ad.add (i * 3 + 2))).getD (.slice none 0 0))[i]? = some v /\ MailsM Q w v x.mails /\ ∀ r u, (boxC x v)[r]? = some u -> w.cell? (ad.add (i * 3 + r)) = some u := by
    intro i x hx; have hi : i < l.length := (au.1 hx).1; obtain ⟨b, o, v, e, _, c0, c1, c2, hM⟩ := h.at hx; cases e; refine ⟨v, ?_, hM, ?_⟩
    . rw [ba, List.getElem?_range hi]; simp only [Option.map_some, bg]; rw [<- Nat.add_assoc, c2]; rfl
    . intro r u hu; have hr : r < 3 := (au.1 hu).1; rw [bg]
      match r, hr, hu with
      | 0, _, h2 => cases h2; simpa using c0
      | 1, _, h2 => cases h2; simpa [Nat.add_assoc] using c1
      | 2, _, h2 => cases h2; simpa [Nat.add_assoc] using c2
   have hlen : ((List.range l.length).map fun i => (w.cell? (ad.add (i * 3 + 2))).getD (.slice none 0 0)).length = l.length := by simp
   generalize ((List.range l.length).map fun i => (w.cell? (ad.add (i * 3 + 2))).getD (.slice none 0 0)) = vm at rg hlen; have hcs : ∀ (i : Nat) cs, (bxCs l vm)[i]? = some cs -> ∃ x v, l[i]? = some x /\ vm[i]? = some v /\ cs = boxC x v := by
    intro i cs hc; have hi : i < l.length := by rw [<- jdW l vm hlen]; exact (au.1 hc).1
    have hx : l[i]? = some l[i] := aw hi; obtain ⟨v, hv, _⟩ := rg i _ hx; rw [ja2 l vm i _ v hx hv] at hc; cases hc; exact ⟨_, v, hx, hv, rfl⟩
   refine (jpf ad l.length c ((bxCs l vm).flatten) w ?_ hm ?_ ?_).mono ?_
   . rw [jd8 (qg l vm), jdW l vm hlen]
   . intro j u hj; obtain ⟨i, r, cs, rfl, hr, h1, h2⟩ := jd7 (qg l vm) hj; obtain ⟨x, v, hx, hv, rfl⟩ := hcs i cs h1; obtain ⟨v', hv', _, hc⟩ := rg i x hx; rw [hv] at hv'; cases hv'; exact hc r u h2
   . intro u hu; obtain ⟨cs, gq, hu⟩ := List.mem_flatten.1 hu; obtain ⟨i, hi, rfl⟩ := List.getElem_of_mem gq; obtain ⟨x, v, hx, hv, e⟩ := hcs i _ (aw hi); obtain ⟨v', hv', hM, _⟩ := rg i x hx; rw [hv] at hv'; cases hv'; obtain ⟨a, c, rfl⟩ := RowM.slice hM; rw [e] at hu; simp only [boxC, bV, bW, or_false] at hu
     rcases hu with rfl | rfl | rfl <;> rfl
   . rintro e w' ⟨v', rfl, ho, hb⟩; refine ⟨v', vm, rfl, ho, hlen, ?_, hb⟩; intro i b v hb' hv; obtain ⟨v', hv', hM, _⟩ := rg i b hb'; rw [hv] at hv'; cases hv'; exact hM
structure PartS (B i p : Nat) (w : World) (vb vs : Value) (vm : List Value) (s : Stt) : Prop where
 here : w.heap[p]? = some (.cells #[vb, vs] 141)
 boxes : w.ownsRow B 40 3 vb s.boxes.length (bxCs s.boxes vm).flatten
 spool : w.ownsRow B 32 6 vs s.spool.length (s.spool.map entC).flatten
 len : vm.length = s.boxes.length
 done : ∀ (j : Nat) b v, j < i -> s.boxes[j]? = some b -> vm[j]? = some v -> w.ownsRow B 47 3 v b.mails.length (b.mails.map jaT).flatten
 left : ∀ (j : Nat) b v, i <= j -> s.boxes[j]? = some b -> vm[j]? = some v -> MailsM (fun k => k < B) w v b.mails
 bs : Apart vb vs
 mb : ∀ (j : Nat) v, j < i -> vm[j]? = some v -> Apart v vb /\ Apart v vs
 mm : ∀ (j k : Nat) u v, j < i -> k < i -> j ≠ k -> vm[j]? = some u -> vm[k]? = some v -> Apart u v
 pb : vb.ownBlock ≠ some p
 ps : vs.ownBlock ≠ some p
 pB : B <= p
theorem PartS.own (h : PartS B i p w vb vs vm s) (hi : s.boxes.length <= i) : OwnS B w vb vs vm s := by
 have hj : ∀ (j : Nat) v, vm[j]? = some v -> j < i := fun j v hv => by have := (au.1 hv).1; rw [h.len] at this; omega
 refine ⟨h.boxes, h.spool, h.len, fun j b v hb hv => h.done j b v (hj j v hv) hb hv, h.bs, ?_, ?_, fun j k u v hjk hu hv => h.mm j k u v (hj j u hu) (hj k v hv) hjk hu hv⟩
 . intro v hv; obtain ⟨j, hj', rfl⟩ := List.getElem_of_mem hv; have := aw hj'; exact (h.mb j _ (hj j _ this) this).1
 . intro v hv; obtain ⟨j, hj', rfl⟩ := List.getElem_of_mem hv; have := aw hj'; exact (h.mb j _ (hj j _ this) this).2
theorem PartS.more {g : Nat} {v' : Value} {b : Bx} (h : PartS B i p w (.slice (some ⟨g, 0, none⟩) s.boxes.length c) vs vm s) (hb : s.boxes[i]? = some b) (hw : Below w.heap.size w w') (cS : B <= w.heap.size)
 (hv : w'.ownsRow w.heap.size 47 3 v' b.mails.length (b.mails.map jaT).flatten) : PartS B (i + 1) p (w'.setCell ⟨g, i * 3 + 2, none⟩ v') (.slice (some ⟨g, 0, none⟩) s.boxes.length c) vs (vm.set i v') s := by
 have dE : i < s.boxes.length := (au.1 hb).1; have hi : i < vm.length := by rw [h.len]; exact dE
 have CM : vm[i]? = some vm[i] := aw hi; have Cd : g < w.heap.size := (aA h.boxes g rfl).2; have uS : B <= g := (aA h.boxes g rfl).1; have hsw : ∀ k, vs.ownBlock = some k -> k < w.heap.size := fun k hk => (aA h.spool k hk).2
 have fI : ∀ k, v'.ownBlock = some k -> w.heap.size <= k := fun k hk => (aA hv k hk).1
 have sm : ∀ (j : Nat) b v, j < i -> s.boxes[j]? = some b -> vm[j]? = some v -> ∀ k, v.ownBlock = some k -> k < w.heap.size := fun j b v hj hb hv k hk => (aA (h.done j b v hj hb hv) k hk).2
 have hold : ∀ k, k < w.heap.size -> k ≠ g -> (w'.setCell ⟨g, i * 3 + 2, none⟩ v').heap[k]? = w.heap[k]? := fun k hk hne => (jB hne).trans (hw.block k hk)
 refine ⟨?_, ?_, ?_, by simpa using h.len, ?_, ?_, h.bs, ?_, ?_, h.pb, h.ps, h.pB⟩
 . exact (hold p (aj.1 h.here).1 fun e => h.pb (by rw [e]; rfl)).trans h.here
 . have gn : w'.ownsRow B 40 3 (.slice (some ⟨g, 0, none⟩) s.boxes.length c) s.boxes.length (bxCs s.boxes vm).flatten := jf h.boxes fun k hk => by cases hk; exact hw.block g Cd
   have := jcq gn (i * 3 + 2) v'; rw [ja6 _ (qg _ _) (ja2 _ _ _ _ _ hb CM) (by omega)] at this; have e : (bxCs s.boxes vm).set i ((boxC b vm[i]).set 2 v') = bxCs s.boxes (vm.set i v') := by
    have nF : s.boxes.set i b = s.boxes := by obtain ⟨h, rfl⟩ := au.1 hb; exact List.set_getElem_self h
    have := jdX s.boxes vm i b v' h.len; rw [nF] at this; rw [this]; rfl
   rw [e] at this; exact this
 . exact jf h.spool fun k hk => hold k (hsw k hk) fun e => h.bs g rfl (by rw [<- e]; exact hk)
 . intro j b' v hj hb' hv'
   by_cases e : i = j
   . subst e; rw [br hi] at hv'; rw [hb] at hb'; cases hv'; cases hb'; have h2 : w'.ownsRow B 47 3 v' b.mails.length (b.mails.map jaT).flatten := ⟨hv.1, hv.2.imp id fun ⟨g', cap, cur, e, hb, r⟩ => ⟨g', cap, cur, e, aN cS hb, r⟩⟩; exact jf h2 fun k hk => jB fun e => by have := fI k hk; omega
   . rw [bj e] at hv'; refine jf (h.done j b' v (by omega) hb' hv') fun k hk => hold k (sm j b' v (by omega) hb' hv' k hk) fun e => (h.mb j v (by omega) hv').1 k hk (by rw [e]; rfl)
 . intro j b' v hj hb' hv'; rw [bj (by omega)] at hv'; exact (h.left j b' v (by omega) hb' hv').imp (fun _ h => h) ⟨by have := hw.size; simpa using this, fun k hk hq => hold k hk (by omega)⟩
 . intro j v hj hv'
   by_cases e : i = j
   . subst e; rw [br hi] at hv'; cases hv'; exact ⟨fun k hk dF => by have := fI k hk; have h2 : g = k := bk dF; omega, fun k hk dF => by have := fI k hk; have := hsw k dF; omega⟩
   . rw [bj e] at hv'; exact h.mb j v (by omega) hv'
 . intro j k u v hj hk hjk hu hv'
   by_cases e : i = j
   . subst e; rw [br hi] at hu; rw [bj hjk] at hv'; cases hu; have fF : k < s.boxes.length := by omega
     exact fun q hq hq' => by have := fI q hq; have := sm k _ v (by omega) (aw fF) hv' q hq'; omega
   . by_cases e2 : i = k
     . subst e2; rw [br hi] at hv'; rw [bj e] at hu; cases hv'; have uX : j < s.boxes.length := by omega
       exact fun q hq hq' => by have := fI q hq'; have := sm j _ u (by omega) (aw uX) hu q hq; omega
     . rw [bj e] at hu; rw [bj e2] at hv'; exact h.mm j k u v (by omega) (by omega) hjk hu hv'
theorem PartS.cell (h : PartS B i p w vb vs vm s) {b : Bx} (hb : s.boxes[j]? = some b) : ∃ g c v, vb = .slice (some ⟨g, 0, none⟩) s.boxes.length c /\ vm[j]? = some v /\ w.cell? ⟨g, j * 3 + 2, none⟩ = some v /\ w.frozen? ⟨g, j * 3 + 2, none⟩ = false := by
 have dE : j < s.boxes.length := (au.1 hb).1; have hi : j < vm.length := by rw [h.len]; exact dE
 have hv : vm[j]? = some vm[j] := aw hi
 rcases h.boxes.2 with ⟨_, hn⟩ | ⟨g, cap, cur, e, _, hg, _⟩
 . omega
 . have := bD h.boxes (g := g) (by rw [e]; rfl) (j * 3 + 2) vm[j] (by rw [ja5 (qg _ _) (ja2 _ _ _ _ _ hb hv) (by omega)]; rfl); rw [bg] at this; exact ⟨g, cap, _, e, hv, by simpa using this, by simp [World.frozen?, hg]⟩
theorem PartS.next {B i p : Nat} {w w' : World} {vb vs : Value} {vm : List Value} {s : Stt} (h : PartS B i p w vb vs vm s) (hb : Below w.heap.size w w') : PartS B i p w' vb vs vm s :=
 ⟨(hb.block p (aj.1 h.here).1).trans h.here, jf h.boxes fun k hk => hb.block k (aA h.boxes k hk).2, jf h.spool fun k hk => hb.block k (aA h.spool k hk).2, h.len,
   fun j b v hj hb' hv => jf (h.done j b v hj hb' hv) fun k hk => hb.block k (aA (h.done j b v hj hb' hv) k hk).2, fun j b v hj hb' hv => (h.left j b v hj hb' hv).next hb, h.bs, h.mb, h.mm, h.pb, h.ps, h.pB⟩
def SoP (B : Nat) (s : Stt) (v : Value) (w : World) : Prop := ∃ p vb vs vm, v = .pointer (some ⟨p, 0, none⟩) /\ PartS B 0 p w vb vs vm s
theorem jqe (h0 : w.heap[p]? = some (.cells #[vb, vs] 141)) (hb : w.ownsRow B 40 3 vb s.boxes.length (bxCs s.boxes vm).flatten) (hs : w.ownsRow B 32 6 vs s.spool.length (s.spool.map entC).flatten) (hl : vm.length = s.boxes.length)
 (hm : ∀ (j : Nat) b v, s.boxes[j]? = some b -> vm[j]? = some v -> MailsM (fun k => k < B) w v b.mails) (a1 : Apart vb vs) (a2 : vb.ownBlock ≠ some p) (a3 : vs.ownBlock ≠ some p) (hp : B <= p) : SoP B s (.pointer (some ⟨p, 0, none⟩)) w :=
 ⟨p, vb, vs, vm, rfl, h0, hb, hs, hl, fun j b v hj => by omega, fun j b v _ => hm j b v, a1, fun j v hj => by omega, fun j k u v hj => by omega, a2, a3, hp⟩
theorem jdT {u : Value} {N : Nat} (h1 : ∀ k, u.ownBlock = some k -> k < N) (h2 : ∀ k, v.ownBlock = some k -> N <= k) : Apart u v := fun k hk dF => by have := h1 k hk; have := h2 k dF; omega
theorem zL (h : w.ownsRow B' e k v n xs) (hB : B <= B') : w.ownsRow B e k v n xs := ⟨h.1, h.2.imp id fun ⟨g', cap, cur, e, hb, r⟩ => ⟨g', cap, cur, e, aN hB hb, r⟩⟩
theorem jcj (h : w.ownsRow B e k v n xs) (hb : Below w.heap.size w w') : w'.ownsRow B e k v n xs := jf h fun k hk => hb.block k (aA h k hk).2
theorem jz (h : w.ownsRow B e k v n xs) : ∃ a c, v = .slice a n c := by
 rcases h.2 with ⟨rfl, hn⟩ | ⟨g, cap, cur, rfl, _⟩
 . exact ⟨none, 0, by rw [hn]⟩
 . exact ⟨_, _, rfl⟩
theorem RowM.lows {Q : Nat -> Prop} {P P' : A -> List Value -> Prop} {l : List A} (h : RowM Q k P w v l) (hp : ∀ x cs, P x cs -> P' x cs) : RowM (fun b => b < w.heap.size) k P' w v l := by
 obtain ⟨a, c, hv, hm, hx⟩ := h; refine ⟨a, c, hv, hm, fun i x hi => ?_⟩; obtain ⟨b, o, cs, ha, hb, _, hl, hc, hP⟩ := hx i x hi; exact ⟨b, o, cs, ha, hb, hb, hl, hc, hp x cs hP⟩
theorem SttM.lows {Q : Nat -> Prop} {w : World} {vb vs : Value} {s : Stt} (h : SttM Q w vb vs s) : SttM (fun b => b < w.heap.size) w vb vs s :=
 ⟨RowM.lows h.1 fun _ _ ⟨v, e, hm⟩ => ⟨v, e, RowM.lows hm fun _ _ h => h⟩, RowM.lows h.2.1 fun _ _ h => h, h.2.2⟩
theorem vL {x : Obj} (h : Below w.heap.size w w') (hb : w.heap[b]? = some x) : w'.heap[b]? = some x := (h.block b (aj.1 hb).1).trans hb
theorem qf (h : w.heap[p]? = some (.cells #[v0, v1] t)) : w.cell? ⟨p, 0, none⟩ = some v0 /\ w.cell? ⟨p, 1, none⟩ = some v1 /\ w.frozen? ⟨p, 0, none⟩ = false /\ w.frozen? ⟨p, 1, none⟩ = false := by
 refine ⟨?_, ?_, ?_, ?_⟩ <;> simp [World.cell?, World.frozen?, h]
theorem jlf {a : Nat} (h : a = n + 2) (hs : a <= b) : n ≠ b := by omega
theorem far2 {a b : Value} (h : n ≠ p) (hc : w.cell? ⟨n, j, none⟩ = some v) : ((w.setCell ⟨p, i, none⟩ a).setCell ⟨p, k, none⟩ b).cell? ⟨n, j, none⟩ = some v := by
 rw [aP (w := w.setCell ⟨p, i, none⟩ a) (jB h), aP (w := w) (jB h)]; exact hc
theorem vr {p : Addr} (h : w.frozen? p = false) (hc : w.cell? p = some v) (hb : Below w.heap.size w w') : w'.frozen? p = false := (bq (hb.block p.block (aG w _ hc))).trans h
theorem OwnS.base (h : OwnS B' w vb vs vm s) (hB : B <= B') : OwnS B w vb vs vm s := ⟨zL h.boxes hB, zL h.spool hB, h.len, fun i b v hb hv => zL (h.mails i b v hb hv) hB, h.bs, h.mb, h.ms, h.mm⟩
def SoR (w : World) (s : Stt) (e : Ending) (w' : World) : Prop := ∃ vb vs vm, e = .returned (.agg #[vb, vs]) /\ OwnS w.heap.size w' vb vs vm s /\ Below w.heap.size w w'
def SoQ (B : Nat) (W0 : World) (s : Stt) (v : Value) (w : World) : Prop := SoP B s v w /\ Below W0.heap.size W0 w
theorem jl0 {Bb Be : Nat} {W0 wx : World} (hw : wx.heap[p]? = some (.cells #[vb, vs] 141)) (nE : ∀ k, k < w3.heap.size -> k ≠ p -> wx.heap[k]? = w3.heap[k]?) (hsz : w3.heap.size <= wx.heap.size) (il : Below W0.heap.size W0 wx)
 (lk : w3.ownsRow Bb 40 3 vb s.boxes.length (bxCs s.boxes vm).flatten) (gQ : w3.ownsRow Be 32 6 vs s.spool.length (s.spool.map entC).flatten) (h1 : B <= Bb) (h2 : B <= Be) (hap : Apart vb vs) (pX : vb.ownBlock ≠ some p) (yL : vs.ownBlock ≠ some p) (hl : vm.length = s.boxes.length)
 (nC : ∀ (j : Nat) b v, s.boxes[j]? = some b -> vm[j]? = some v -> MailsM (fun k => k < B) w3 v b.mails) (hp : B <= p) : SoQ B W0 s (.pointer (some ⟨p, 0, none⟩)) wx := by
 refine ⟨jqe hw (jf (zL lk h1) fun k hk => nE k (aA lk k hk).2 fun e => pX (by rw [<- e]; exact hk)) (jf (zL gQ h2) fun k hk => nE k (aA gQ k hk).2 fun e => yL (by rw [<- e]; exact hk)) hl ?_ hap pX yL hp, il⟩; intro j b v hb hv; exact (nC j b v hb hv).imp (fun _ h => h) ⟨hsz, fun k hk hq => nE k hk (by omega)⟩
theorem vz {u0 u1 : Value} (h : w.heap[p]? = some (.cells #[v0, v1] t)) : ((w.setCell ⟨p, 0, none⟩ u0).setCell ⟨p, 1, none⟩ u1).heap[p]? = some (.cells #[u0, u1] t) := by
 have h1 := aM w p 0 #[v0, v1] t u0 h; have h2 := aM (w.setCell ⟨p, 0, none⟩ u0) p 1 _ t u1 h1; rw [h2]; rfl
theorem jjD (s : Stt) (vb0 vs0 : Value) (w : World) (Q : Nat -> Prop) (uA : SttM Q w vb0 vs0 s) (hM : May s) :
 Calls Tryz.prog 65 #[.agg #[vb0, vs0]] w (SoR w s) := by
 have hS := uA.lows; have sE := hM.boxes; have gx := hM.spool; have kQ := hid (fun b hb => (hM.each b hb).many); obtain ⟨ab, cb, rfl⟩ := RowM.slice hS.1; obtain ⟨aq, cq, rfl⟩ := RowM.slice hS.2.1; obtain ⟨W0, hW0⟩ : ∃ W0, W0 = (w.alloc (.cells #[.slice ab s.boxes.length cb, .slice aq s.spool.length cq] 44)).alloc (.cells #[.slice none 0 0, .slice none 0 0] 141) := ⟨_, rfl⟩; have b9 := hid hW0; have dc : Below w.heap.size w W0 := by rw [hW0]; exact (nb0 _ _).alloc (by simp) _
 have cj := hid dc; have hz0 : W0.heap.size = w.heap.size + 2 := by rw [hW0]; simp
 have x0 : W0.cell? ⟨w.heap.size, 0, none⟩ = some (.slice ab s.boxes.length cb) := by rw [hW0]; exact jl (by simp) _
 have x1 : W0.cell? ⟨w.heap.size, 1, none⟩ = some (.slice aq s.spool.length cq) := by rw [hW0]; exact jl (by simp) _
 have hR : W0.heap[w.heap.size + 1]? = some (.cells #[.slice none 0 0, .slice none 0 0] 141) := by rw [hW0]; have := az (w.alloc (.cells #[.slice ab s.boxes.length cb, .slice aq s.spool.length cq] 44)) (.cells #[.slice none 0 0, .slice none 0 0] 141); simpa using this
 have HR := hid hR; have uD := (hS.next dc).lows; have sT := hid (fun u (hu : Below W0.heap.size W0 u) => jqt s.boxes _ u (fun k => k < W0.heap.size) (uD.1.next hu) (by omega)); have ix := hid (fun u (hu : Below W0.heap.size W0 u) => jqu s.spool _ u (fun k => k < W0.heap.size) (uD.2.1.next hu) (by omega)); have dz : w.heap.size ≠ W0.heap.size := by omega
 have As := hid (fun u (hu : Below W0.heap.size W0 u) (_ : u.heap[W0.heap.size]? = some (.cells #[.slice none 0 0, .slice none 0 0] 141)) => ix.out u hu); have iK := hid (show Below W0.heap.size W0 (W0.alloc (.cells #[.slice none 0 0, .slice none 0 0] 141)).drew from ((ay W0.heap.size W0).alloc (ai _) _).drew); have A6 := hid (show (W0.alloc (.cells #[.slice none 0 0, .slice none 0 0] 141)).drew.heap[W0.heap.size]? = some (.cells #[.slice none 0 0, .slice none 0 0] 141) from az W0 _); have mf := hid hz0; clear uA hS hM hW0 dc hR uD hz0; go_enter Tryz.func65, Tryz.ntmps65; go_wp2; rw [<- b9.out]
 go_cut [3] (fun v wx => SoQ W0.heap.size W0 s v wx)
 case first =>
  go_region_held3 (fun w' => w'.cell? ⟨w.heap.size, 0, none⟩ = some (.slice ab s.boxes.length cb) /\ w'.cell? ⟨w.heap.size, 1, none⟩ = some (.slice aq s.spool.length cq)) (first | (go_keep; done) | exact ⟨far2 lM r0, far2 lM r1⟩ | exact ⟨far2 dz r0, far2 dz r1⟩ | fail)
   (first
        | (go_at_call 93
           with_reducible refine (As.out _ fP.out tE.out).mono ?_
           rintro e w3 ⟨vs, rfl, gQ, hb⟩; obtain ⟨a2, c2, rfl⟩ := jz gQ; have mM := hid (fP.out.trans (hb.mono fP.out.size)); have iU := hid gQ; have gV := hid (jcj lu.out hb); have iQ := hid (fun (j : Nat) b v hj hv => (rL.out j b v hj hv).next hb); have o8 := hid (vL hb tE.out); obtain ⟨t0, t1, f0, f1⟩ := qf o8.out; have r0 := ja q0 hb; have r1 := ja q1 hb; clear hb gQ)
        | (go_at_call 93
           with_reducible refine (ix.out _ fP.out).mono ?_
           rintro e w3 ⟨vs, rfl, gQ, hb⟩; obtain ⟨a2, c2, rfl⟩ := jz gQ; have mM := hid (fP.out.trans (hb.mono fP.out.size)); have iU := hid gQ; have gV := hid (jcj lu.out hb); have iQ := hid (fun (j : Nat) b v hj hv => (rL.out j b v hj hv).next hb); have r0 := ja q0 hb; have r1 := ja q1 hb; clear hb gQ)
        | (go_at_call 93
           with_reducible refine (ix.out (w2.alloc (.cells #[.slice none 0 0, .slice none 0 0] 141)) (fP.out.alloc fP.out.size _)).mono ?_
           rintro e w3 ⟨vs, rfl, gQ, hb⟩; obtain ⟨a2, c2, rfl⟩ := jz gQ; have uM : Below w2.heap.size w2 (w2.alloc (.cells #[.slice none 0 0, .slice none 0 0] 141)) := nb0 _ _; have oo : Below w2.heap.size w2 w3 := uM.trans (hb.mono uM.size); have mM := hid (fP.out.trans (oo.mono fP.out.size)); have iU := hid gQ; have gV := hid (jcj lu.out oo); have iQ := hid (fun (j : Nat) b v hj hv => (rL.out j b v hj hv).next oo); have o8 := hid (vL hb (az w2 (.cells #[.slice none 0 0, .slice none 0 0] 141))); obtain ⟨t0, t1, f0, f1⟩ := qf o8.out; have r0 := ja q0 oo; have r1 := ja q1 oo; clear hb gQ uM oo)
        | (go_at_call 92
           with_reducible refine (sT.out W0.drew ((ay _ _).drew)).mono ?_
           rintro e w2 ⟨vb, vm, rfl, lk, ks, mu, hb⟩; obtain ⟨a1, c1, rfl⟩ := jz lk; have hb2 : Below W0.heap.size W0 w2 := (ay _ _).drew.trans hb; have fP := hid hb2; have lu := hid lk; have nM := hid ks; have rL := hid (fun (j : Nat) b v hj hv => (mu j b v hj hv).next hb); have q0 := ja x0 hb2; have q1 := ja x1 hb2; have lM := jlf mf.out hb2.size; clear hb hb2 lk ks mu)
        | (go_at_call 92
           with_reducible refine (sT.out ((W0.alloc (.cells #[.slice none 0 0, .slice none 0 0] 141)).drew) iK.out).mono ?_
           rintro e w2 ⟨vb, vm, rfl, lk, ks, mu, hb⟩; obtain ⟨a1, c1, rfl⟩ := jz lk; have hb2 : Below W0.heap.size W0 w2 := iK.out.trans (hb.mono iK.out.size); have fP := hid hb2; have lu := hid lk; have nM := hid ks; have rL := hid (fun (j : Nat) b v hj hv => (mu j b v hj hv).next hb); have tE := hid (vL hb A6.out); have q0 := ja x0 hb2; have q1 := ja x1 hb2; have lM := jlf mf.out hb2.size; clear hb hb2 lk ks mu)
        | fail)
  . go_wp2_with fail
    go_meet
    have hs2 := fP.out.size; have hz0 := mf.out; exact jl0 (p := w3.heap.size) (az w3 _) (fun k hk _ => heap_alloc_old w3 _ hk) (by simp) (mM.out.alloc mM.out.size _) gV.out iU.out (ai _) (by omega) (jdT (N := w2.heap.size) (fun k hk => (aA lu.out k hk).2) (fun k hk => (aA iU.out k hk).1)) (fun e => by have := (aA gV.out _ e).2; omega) (fun e => by have := (aA iU.out _ e).2; omega) nM.out iQ.out (by have := mM.out.size; omega)
  . go_wp2_with fail
    go_meet
    have hs2 := fP.out.size; have hz0 := mf.out; exact jl0 (p := w2.heap.size) (vz o8.out) (fun k hk hne => (jB hne).trans (jB hne)) (by simp) ((mM.out.setCell hs2 _).setCell hs2 _) gV.out iU.out (ai _) (by simp; omega) (jdT (N := w2.heap.size) (fun k hk => (aA lu.out k hk).2) (fun k hk => by have := (aA iU.out k hk).1; simp at this; omega)) (fun e => by have := (aA lu.out _ e).2; omega) (fun e => by have := (aA iU.out _ e).1; simp at this; omega) nM.out iQ.out (by omega)
  . go_wp2_with fail
    go_meet
    have hs2 := fP.out.size; have hz0 := mf.out; exact jl0 (p := W0.heap.size) (vz o8.out) (fun k hk hne => (jB hne).trans (jB hne)) (by simp) ((mM.out.setCell (ai _) _).setCell (ai _) _) gV.out iU.out (by simp) (by omega) (jdT (N := w2.heap.size) (fun k hk => (aA lu.out k hk).2) (fun k hk => (aA iU.out k hk).1)) (fun e => by have := (aA lu.out _ e).1; simp at this; omega) (fun e => by have h1 := (aA iU.out _ e).1; have h2 := (aj.1 tE.out).1; omega) nM.out iQ.out (by omega)
 case rest =>
  obtain ⟨⟨p, vb, vs, vm, rfl, hP⟩, ij⟩ := hcut; have fO := hid ij; obtain ⟨a1, c1, rfl⟩ := jz hP.boxes; obtain ⟨a2, c2, rfl⟩ := jz hP.spool; obtain ⟨t0, t1, f0, f1⟩ := qf hP.here; have HP := hid hP; clear hP ij sT ix; go_wp2
  go_loopw [15] (fun v wr => ∃ (i : Nat) (vm : List Value), i <= s.boxes.length /\ v = .int .i64 i /\ Hid (PartS W0.heap.size i p wr (.slice a1 s.boxes.length c1) (.slice a2 s.spool.length c2) vm s) /\ Hid (Below W0.heap.size W0 wr)) (fun v _ => s.boxes.length - (intOf v).toNat)
  case atStart => exact ⟨0, vm, aQ _, rfl, HP, fO⟩
  case round =>
   obtain ⟨i, vm', hi, rfl, HQ, HB⟩ := hrel; obtain ⟨z0, z1, g0, g1⟩ := qf HQ.out.here
   by_cases hlt : i < s.boxes.length
   . have i1 : (i : Int) < (s.boxes.length : Int) := by omega
     have i0 : (0 : Int) <= (i : Int) := by omega
     obtain ⟨b, hb⟩ : ∃ b, s.boxes[i]? = some b := ⟨_, aw hlt⟩; obtain ⟨g, c, v, e, hv, k2, l2⟩ := HQ.out.cell hb; simp only [aE, true_and] at e; obtain ⟨rfl, rfl⟩ := e; have hM := HQ.out.left i b v (ai _) hb hv; obtain ⟨am, cm, rfl⟩ := RowM.slice hM; have Dh : g ≠ p := fun e => HQ.out.pb (by rw [e]; rfl)
     have HC := hid (fun u (hu : Below wr.heap.size wr u) => jqv b.mails _ u _ (hM.next hu) (by have := kQ.out b (aF hb); omega)); have oG := hid hb; clear hb hM hv; go_wp2; have Ar := hid (HC.out wr.drew ((ay _ _).drew))
     go_region_law
      (first
      | (go_simp
         go_at_call 94
         refine Ar.out.mono ?_; rintro e w2 ⟨v', rfl, wt, hb⟩; obtain ⟨a3, c3, rfl⟩ := jz wt; have hb2 : Below wr.heap.size wr w2 := (ay _ _).drew.trans hb; have y0 := ja z0 hb2; have y2 := ja k2 hb2; have yf := vr l2 k2 hb2; have tC := hid wt; have bY := hid hb2; clear hb hb2 wt)
      | fail)
     all_goals
      have HN := hid (HQ.out.more oG.out bY.out HB.out.size tC.out); have bZ := hid (show Below W0.heap.size W0 (w2.setCell ⟨g, i * 3 + 2, none⟩ (.slice a3 b.mails.length c3)) from (HB.out.trans (bY.out.mono HB.out.size)).setCell (show W0.heap.size <= g from (aA HQ.out.boxes g rfl).1) _); go_wp2
      go_roundw
      case rel => first | exact ⟨i + 1, _, by omega, by go_num, HN, bZ⟩ | ((repeat apply Exists.intro); exact ⟨⟨i + 1, _, by omega, by go_num, HN, bZ⟩, rfl⟩)
      case measure => simp [intOf]; omega
   . have i1 : ¬ (i : Int) < (s.boxes.length : Int) := by omega
     have hR := vL HB.out HR.out; obtain ⟨u0, u1, h0, h1⟩ := qf hR; have HO := hid (HQ.out.own (by omega)); have hz0 := mf.out; have HE := hid (show ∀ u v : Value, OwnS w.heap.size ((wr.setCell ⟨w.heap.size + 1, 0, none⟩ u).setCell ⟨w.heap.size + 1, 1, none⟩ v) (.slice a1 s.boxes.length c1) (.slice a2 s.spool.length c2) vm' s /\ Below w.heap.size w ((wr.setCell ⟨w.heap.size + 1, 0, none⟩ u).setCell ⟨w.heap.size + 1, 1, none⟩ v) from fun u v =>
      ⟨(HO.out.base cj.out.size).keep fun k hk => by
        have dF : k ≠ w.heap.size + 1 := by have := (HO.out.lt hk).1; omega
        exact (jB dF).trans (jB dF), ((cj.out.trans (HB.out.mono cj.out.size)).setCell (Nat.le_succ _) _).setCell (Nat.le_succ _) _⟩)
     obtain ⟨v0, v1, j0, j1⟩ := qf (vz (u0 := .slice a1 s.boxes.length c1) (u1 := .slice a2 s.spool.length c2) hR); clear hR hz0; go_wp2; refine aD (v := .agg #[.slice a1 s.boxes.length c1, .slice a2 s.spool.length c2]) (by simp [results, Tryz.results65, go_sem, *]) rfl ?_; exact ⟨_, _, vm', rfl, HE.out _ _⟩
def Sto (B p : Nat) (w : World) (s : Stt) : Prop := ∃ vb vs vm, w.heap[p]? = some (.cells #[vb, vs] 141) /\ OwnS B w vb vs vm s /\ ¬ inS vb vs vm p /\ B <= p
def DoP (B p : Nat) (w : World) (r : Except Int Stt) (e : Ending) (w' : World) : Prop := Below B w w' /\ match r with
 | .error z => e = .returned (.int .i64 z)
 | .ok s' => e = .returned (.int .i64 0) /\ Sto B p w' s'
theorem DoP.trans {B p : Nat} {w u w' : World} {r : Except Int Stt} {e : Ending} (hb : Below B w u) (h : DoP B p u r e w') : DoP B p w r e w' := ⟨hb.trans h.1, h.2⟩
theorem jmh (w : World) (a b c : Value) (t : TypeId) : ∀ j u, [a, b, c][j]? = some u -> (w.alloc (.cells #[a, b, c] t)).cell? ((⟨w.heap.size, 0, none⟩ : Addr).add j) = some u := by
 intro j u hj; rw [bg]; have := az w (.cells #[a, b, c] t); simp only [World.cell?, this, bc]
 simpa using hj
theorem Sto.next {B p : Nat} {w w' : World} {s : Stt} (h : Sto B p w s) (hb : Below w.heap.size w w') : Sto B p w' s := by
 obtain ⟨vb, vs, vm, h1, h2, h3, h4⟩ := h; exact ⟨vb, vs, vm, vL hb h1, h2.next hb, h3, h4⟩
theorem ji9 {b : Bx} (h : OwnS B w vb vs vm s) (hb : s.boxes[i]? = some b) (hv : vm[i]? = some v) : ∃ a c, v = .slice a b.mails.length c := jz (h.mails i b v hb hv)
theorem jo1 {g gm cm : Nat} {w1 w5 : World} {b : Bx} {f : Int} {t : List UInt8}
 (hp : w.heap[p]? = some (.cells #[.slice (some ⟨g, 0, none⟩) s.boxes.length c, vs] 141)) (hO : OwnS B w (.slice (some ⟨g, 0, none⟩) s.boxes.length c) vs vm s) (hn : ¬ inS (.slice (some ⟨g, 0, none⟩) s.boxes.length c) vs vm p) (ni : B <= p) (hb : s.boxes[i]? = some b) (hv : vm[i]? = some v)
 (dw : Below w.heap.size w w1) (hgrow : w1.grownBy w5 v.ownBlock) (hown : w5.ownsRow B 47 3 (.slice (some ⟨gm, 0, none⟩) (b.mails.length + 1) cm) (b.mails.length + 1) ((b.mails.map jaT).flatten ++ jaT ⟨b.next, f, t⟩)) (hat : v.ownBlock = some gm ∨ gm = w1.heap.size ∨ w.heap.size <= gm) :
 Sto B p ((w5.setCell ⟨g, i * 3 + 2, none⟩ (.slice (some ⟨gm, 0, none⟩) (b.mails.length + 1) cm)).setCell ⟨g, i * 3 + 1, none⟩ (.int .i64 (b.next + 1))) ⟨s.boxes.set i ⟨b.name, b.next + 1, b.mails ++ [⟨b.next, f, t⟩]⟩, s.spool⟩ /\
 Below B w ((w5.setCell ⟨g, i * 3 + 2, none⟩ (.slice (some ⟨gm, 0, none⟩) (b.mails.length + 1) cm)).setCell ⟨g, i * 3 + 1, none⟩ (.int .i64 (b.next + 1))) := by
 have dE : i < s.boxes.length := (au.1 hb).1; have hi : i < vm.length := by rw [hO.len]; exact dE
 have hd : vm.getD i (.slice none 0 0) = v := by rw [bU, hv]; rfl
 have lf : some g ≠ v.ownBlock := fun e => hO.mb v (aF hv) g e.symm rfl
 have uS : B <= g := (aA hO.boxes g rfl).1; have hsz : w.heap.size <= w1.heap.size := dw.size; have u7 : ∀ k, k < w.heap.size -> some k ≠ v.ownBlock -> w5.heap[k]? = w.heap[k]? := fun k hk hne => (hgrow.block k (by omega) hne).trans (dw.block k hk)
 have hpl : p < w.heap.size := (aj.1 hp).1; have pY : p ≠ g := fun e => hn (.inl (by rw [e]; rfl))
 have yM : some p ≠ v.ownBlock := fun e => hn (.inr (.inr ⟨v, aF hv, e.symm⟩))
 have h1 := hO.setMails (v' := .slice (some ⟨gm, 0, none⟩) (b.mails.length + 1) cm) (ms := b.mails ++ [⟨b.next, f, t⟩]) hb (w' := w5) (by rw [hd]; exact u7) (by simpa using hown) (by
  rw [hd]
  rcases hat with e | e | e
  . exact .inl e.symm
  . exact .inr fun k hk => by have : gm = k := bk hk; omega
  . exact .inr fun k hk => by have : gm = k := bk hk; omega)
 have h2 := OwnS.setNext (i := i) (b := ⟨b.name, b.next, b.mails ++ [⟨b.next, f, t⟩]⟩) (n := b.next + 1) (s := ⟨s.boxes.set i ⟨b.name, b.next, b.mails ++ [⟨b.next, f, t⟩]⟩, s.spool⟩) (by simpa using h1) (br dE); refine ⟨⟨.slice (some ⟨g, 0, none⟩) s.boxes.length c, vs, vm.set i (.slice (some ⟨gm, 0, none⟩) (b.mails.length + 1) cm), ?_, by simpa [List.set_set] using h2, ?_, ni⟩, ?_⟩
 . exact (jB pY).trans ((jB pY).trans ((u7 p hpl yM).trans hp))
 . rintro (e | e | ⟨u, hu, e⟩)
   . exact hn (.inl e)
   . exact hn (.inr (.inl e))
   . rcases jaO hu with rfl | hu
     . have e' : gm = p := bk e
       rcases hat with h | h | h
       . exact yM (by rw [h, e'])
       . omega
       . omega
     . exact hn (.inr (.inr ⟨u, hu, e⟩))
 . have h5 : Below B w w5 := by
    refine ⟨hgrow.os.trans dw.os, hgrow.tape.trans dw.tape, hgrow.output.trans dw.output, aN hsz hgrow.size, fun k hk => u7 k ?_ ?_⟩
    . omega
    . intro e; have := (aA (hO.mails i b v hb hv) k e.symm).1; omega
   exact (h5.setCell uS _).setCell uS _
theorem jmG (B p g c i : Nat) (vs : Value) (vm : List Value) (s : Stt) (b : Bx) (f : Int) (t : List UInt8) (w : World) (hp : w.heap[p]? = some (.cells #[.slice (some ⟨g, 0, none⟩) s.boxes.length c, vs] 141)) (hO : OwnS B w (.slice (some ⟨g, 0, none⟩) s.boxes.length c) vs vm s) (hn : ¬ inS (.slice (some ⟨g, 0, none⟩) s.boxes.length c) vs vm p) (ni : B <= p) (hb : s.boxes[i]? = some b) (hM : May s) (ht : t.length <= 2000) :
 Calls Tryz.prog 98 #[.pointer (some ⟨p, 0, none⟩), .pointer (some ⟨g, i * 3, none⟩), .int .i64 f, .string (S t)] w (DoP B p w (addM s i f t)) := by
 obtain ⟨g', c', v, e, hv, e0, e1, e2, f1, f2⟩ := hO.box hb; simp only [aE, aS, Addr.mk.injEq, and_true, true_and] at e; obtain ⟨rfl, rfl⟩ := e; obtain ⟨am, cm, rfl⟩ := ji9 hO hb hv; obtain ⟨p0, p1, q0, q1⟩ := qf hp; have C9 := (hM.each b (aF hb)).many; have BQ : B <= w.heap.size := by have := (aA hO.boxes g rfl); omega
 obtain ⟨r, hr⟩ : ∃ r, r = addM s i f t := ⟨_, rfl⟩; have HR := hid hr; rw [<- hr]; have mS := hid (show (30 <= b.mails.length ∨ 1048576 < b.next ∨ 6000 < j4 s.boxes + t.length) -> r = .error 5 from fun h => by rw [hr]; unfold addM; rw [hb]; simp only [if_pos h]); clear hr
 by_cases BN : 30 <= b.mails.length
 . have hi : (30 : Int) <= (b.mails.length : Int) := by omega
   have HE := hid (show DoP B p w r (.returned (.int .i64 5)) w by rw [mS.out (.inl BN)]; exact ⟨ay _ _, rfl⟩); clear HR mS hb hv hM hO hp hn; go_enter Tryz.func98, Tryz.ntmps98; go_wp2; go_ret; exact HE.out
 . have hi : ¬ (30 : Int) <= (b.mails.length : Int) := by omega
   by_cases hmx : 1048576 < b.next
   . have HE := hid (show DoP B p w r (.returned (.int .i64 5)) w by rw [mS.out (.inr (.inl hmx))]; exact ⟨ay _ _, rfl⟩); clear HR mS hb hv hM hO hp hn; go_enter Tryz.func98, Tryz.ntmps98; go_wp2; go_ret; exact HE.out
   . have og := hO.stt (Q := fun _ => True) hM (fun _ _ => trivial); have ep := hid (jdM s.boxes (some ⟨g, 0, none⟩) c w _ og.1 hM.size); have hz := hM.size
     by_cases hq : 6000 < j4 s.boxes + t.length
     . have CE : (6000 : Int) < ((j4 s.boxes : Nat) : Int) + ((S t).size : Int) := by rw [jb]; omega
       have CF : ((j4 s.boxes : Nat) : Int) + ((S t).size : Int) <= 10000 := by rw [jb]; omega
       have HE := hid (show ∀ u, Below w.heap.size w u -> DoP B p w r (.returned (.int .i64 5)) u from fun u hu => by rw [mS.out (.inr (.inr hq))]; exact ⟨hu.mono BQ, rfl⟩); clear HR mS hb hv hM hO hp hn og; generalize ((j4 s.boxes : Nat) : Int) = z at *; go_enter Tryz.func98, Tryz.ntmps98; go_wp2_with fail; refine ep.out.mono ?_; rintro e w1 ⟨rfl, hb1⟩; have dG := hid (HE.out w1 hb1); clear hb1; go_wp2; go_ret; exact dG.out
     . have CE : ¬ (6000 : Int) < ((j4 s.boxes : Nat) : Int) + ((S t).size : Int) := by rw [jb]; omega
       have CF : (0 : Int) <= ((j4 s.boxes : Nat) : Int) + ((S t).size : Int) := by rw [jb]; omega
       have nT := hid (show r = .ok ⟨s.boxes.set i ⟨b.name, b.next + 1, b.mails ++ [⟨b.next, f, t⟩]⟩, s.spool⟩ by rw [HR.out]; unfold addM; rw [hb]; simp only; rw [if_neg (by omega)]); have Cz := (hM.each b (aF hb)).next; obtain ⟨i0, hi', hz0, hz1, hz2⟩ := info_parts joH; have cj := hid hb; have pi := hid hv; have mR := hid hO; have rM := hid hp; have A5 := hid hn; clear HR mS hb hv hM hO hp hn og; generalize hzz : ((j4 s.boxes : Nat) : Int) = z at *; clear hzz; go_enter Tryz.func98, Tryz.ntmps98; go_wp2_with fail; refine ep.out.mono ?_; rintro e w1 ⟨rfl, hb1⟩; have y0 := ja e0 hb1; have y1 := ja e1 hb1; have y2 := ja e2 hb1; have yf1 := vr f1 e1 hb1; have yf2 := vr f2 e2 hb1; have cO := hid hb1; have xZ := jcj (mR.out.mails i b _ cj.out pi.out) hb1; have oZ := hid xZ; have hs1 := hb1.size; have ip : g < w1.heap.size := aG _ _ y1; have sq : some g ≠ (Value.slice am b.mails.length cm).ownBlock := fun e => mR.out.mb _ (aF pi.out) g e.symm rfl
       clear hb1 xZ; go_wp2
       go_region_law
        (first
           | (refine step_append_lies _ (by rfl) _ _ _ (by rfl) B 47 i0 _ 3 32 Tryz.underlying38 hi' hz0 hz1 hz2 rfl (by omega) (.slice am b.mails.length cm) b.mails.length ((b.mails.map jaT).flatten) (by rfl) (by first | exact aO (show World.ownsRow w1.drew _ _ _ _ _ _ from oZ.out) _ | exact (aO oZ.out _).drew)
                ⟨w1.heap.size, 0, none⟩ 1 1 [.int .i64 b.next, .int .i64 f, .string (S t)] (by rfl) (by rfl) (by first | exact jmh w1.drew _ _ _ _ | exact jmh w1 _ _ _ _) (by simp [Value.oneCell']) (by omega) (by unfold maxLen; omega) (by omega) (by simp; omega) _ rfl ?_
              intro gm cap w5 dp hgrow hat fH; have x1 := hgrow.cell (a := ⟨g, i * 3 + 1, none⟩) (jl (w := w1.drew) y1 _) sq; have x2 := hgrow.cell (a := ⟨g, i * 3 + 2, none⟩) (jl (w := w1.drew) y2 _) sq; have xf1 : w5.frozen? ⟨g, i * 3 + 1, none⟩ = false := (bq (hgrow.block g (by simp; omega) sq)).trans (vr (w := w1.drew) yf1 y1 (nb0 _ _)); have xf2 : w5.frozen? ⟨g, i * 3 + 2, none⟩ = false := (bq (hgrow.block g (by simp; omega) sq)).trans (vr (w := w1.drew) yf2 y2 (nb0 _ _)); have iB := hid (show Below w.heap.size w (w1.drew.alloc (.cells #[.int .i64 b.next, .int .i64 f, .string (S t)] 47)) from cO.out.drew.alloc hs1 _); have fR := hid (jo1 rM.out mR.out A5.out ni cj.out pi.out iB.out hgrow dp (hat.imp id Or.inl)); clear dp hgrow hat)
           | fail)
       all_goals
        have HF := hid (show DoP B p w r (.returned (.int .i64 0)) ((w5.setCell ⟨g, i * 3 + 2, none⟩ (.slice (some ⟨gm, 0, none⟩) (b.mails.length + 1) cap)).setCell ⟨g, i * 3 + 1, none⟩ (.int .i64 (b.next + 1))) by rw [nT.out]; exact ⟨fR.out.2, rfl, fR.out.1⟩); have n1 : b.next <= 1048576 := by omega
        have n2 : 1 <= b.next := Cz.1; go_wp2; go_ret; exact HF.out
end Go.Proofs.YtjdkbdkimbgbfaaGreatDoor
