/-
  The writer of a batch's bytes: memory, and the walk of its numbers.
-/
import Derived.Test.YtaaenhjhjclilabDoorBkPur
import Derived.Test.YtaaenhjhjclilabDoorBkBy
namespace Go.Proofs.YtaaenhjhjclilabDoor
open Go.RowKit Go.Proofs

/-- All but the writer's block and its row is as it was. -/
structure Wro (b : Nat) (g g' : Option Nat) (w w' : World) : Prop where
  os : w'.os = w.os
  tape : w'.tape = w.tape
  output : w'.output = w.output
  size : w.heap.size ≤ w'.heap.size
  block : ∀ k, k < w.heap.size → k ≠ b → g ≠ some k → w'.heap[k]? = w.heap[k]?
  row : ∀ k, g' = some k → g = some k ∨ w.heap.size ≤ k
theorem Wro.refl (b : Nat) (g : Option Nat) (w : World) : Wro b g g w w := ⟨rfl, rfl, rfl, Nat.le_refl _, fun _ _ _ _ => rfl, fun _ h => .inl h⟩
theorem Wro.trans {b : Nat} {g g' g'' : Option Nat} {x y z : World} (h : Wro b g g' x y) (k : Wro b g' g'' y z) : Wro b g g'' x z :=
  ⟨k.os.trans h.os, k.tape.trans h.tape, k.output.trans h.output, Nat.le_trans h.size k.size,
   fun i hi hn hg => (k.block i (Nat.lt_of_lt_of_le hi h.size) hn (fun e => by rcases h.row i e with q | q; exact hg q; omega)).trans (h.block i hi hn hg),
   fun i e => by
    rcases k.row i e with q | q
    · exact h.row i q
    · exact .inr (Nat.le_trans h.size q)⟩
theorem Wro.of {b : Nat} {g : Option Nat} {w w' : World} (h : Below w.heap.size w w') : Wro b g g w w' := ⟨h.os, h.tape, h.output, h.size, fun k hk _ _ => h.block k hk, fun _ h => .inl h⟩
theorem Wro.below {b B : Nat} {g g' : Option Nat} {w w' : World} (h : Wro b g g' w w') (hB : B ≤ b) (hw : B ≤ w.heap.size) (hg : ∀ k, g = some k → B ≤ k) : Below B w w' :=
  ⟨h.os, h.tape, h.output, h.size, fun k hk => h.block k (by omega) (by omega) (fun e => by have := hg k e; omega)⟩
/-- The writer's block holds these bytes, in a row of its own. -/
def ByW (B : Nat) (w : World) (b : Nat) (g : Option Nat) (l : List UInt8) : Prop :=
  ∃ a c, w.heap[b]? = some (.cells #[.slice a l.length c] 91) ∧ (Value.slice a l.length c).ownBlock = g ∧ g ≠ some b ∧ B ≤ b ∧ w.ownsRow B 5 1 (.slice a l.length c) l.length (byC l)
theorem ByW.lt {B b : Nat} {w : World} {g : Option Nat} {l : List UInt8} (h : ByW B w b g l) : b < w.heap.size := by
  obtain ⟨a, c, h1, _⟩ := h
  exact (Array.getElem?_eq_some_iff.1 h1).1
theorem ByW.row {B b : Nat} {w : World} {g : Option Nat} {l : List UInt8} (h : ByW B w b g l) : ∀ k, g = some k → B ≤ k ∧ k < w.heap.size ∧ k ≠ b := by
  obtain ⟨a, c, _, h2, h3, _, h4⟩ := h
  intro k hk
  have := World.ownsRow.lt h4 k (h2.trans hk)
  exact ⟨this.1, this.2, fun e => h3 (by rw [hk, e])⟩
theorem ByW.next {B b : Nat} {w w' : World} {g : Option Nat} {l : List UInt8} (h : ByW B w b g l) (hb : Below w.heap.size w w') : ByW B w' b g l := by
  obtain ⟨a, c, h1, h2, h3, h4, h5⟩ := h
  exact ⟨a, c, bk_low hb h1, h2, h3, h4, bk_keep h5 fun g hg => hb.block g (World.ownsRow.lt h5 g hg).2⟩
theorem Wro.low {B b : Nat} {w w' : World} {g g' : Option Nat} {l : List UInt8} (h : Wro b g g' w w') (hb : ByW B w b g l) : Below B w w' := by
  have h1 := hb.lt
  have h2 : B ≤ b := by obtain ⟨_, _, _, _, _, h, _⟩ := hb; exact h
  exact h.below h2 (by omega) fun k hk => (hb.row k hk).1
/-- A block that is neither the writer's nor its row's. -/
theorem Wro.obj {B b p : Nat} {w w' : World} {g g' : Option Nat} {l : List UInt8} {o : Obj} (h : Wro b g g' w w') (_hb : ByW B w b g l) (hp : w.heap[p]? = some o) (hn : p ≠ b) (hg : g ≠ some p) : w'.heap[p]? = some o :=
  (h.block p (Array.getElem?_eq_some_iff.1 hp).1 hn hg).trans hp
theorem Wro.stay {b p : Nat} {w w' : World} {g g' : Option Nat} (h : Wro b g g' w w') (hp : p < w.heap.size) (hg : g ≠ some p) : g' ≠ some p := by
  intro e
  rcases h.row p e with q | q
  · exact hg q
  · omega
/-- What a method of the writer does. -/
def WnP (B b : Nat) (g : Option Nat) (w : World) (l : List UInt8) (e : Ending) (w' : World) : Prop := e = .returned (.tuple #[]) ∧ ∃ g', ByW B w' b g' l ∧ Wro b g g' w w'
theorem bk_one_new (W : World) (H : Nat) (hH : W.heap.size = H) (v : Value) (t : TypeId) : ∀ j u, [v][j]? = some u → (W.alloc (.cells #[v] t)).cell? ((⟨H, 0, none⟩ : Addr).add j) = some u := by
  intro j u hj
  subst hH
  cases j with
  | zero => simp at hj; subst hj; rw [Addr.add_lit]; simp
  | succ j => simp at hj
theorem by_snoc (l : List UInt8) (n : Nat) : byC (l ++ [UInt8.ofNat n]) = byC l ++ [.int .u8 ((n % 256 : Nat) : Int)] := by
  rw [byC_app]
  simp [byC]
theorem wro_grown {b g2 : Nat} {w w3 : World} {g : Option Nat} (o : Obj) (hg : (w.drew.alloc o).grownBy w3 g) (hat : g = some g2 ∨ g2 = (w.drew.alloc o).heap.size) : Wro b g (some g2) w w3 := by
  have hz : (w.drew.alloc o).heap.size = w.heap.size + 1 := by simp
  refine ⟨hg.os, hg.tape, hg.output, by have := hg.size; omega, fun k hk _ hn => ?_, fun k hk => ?_⟩
  · refine (hg.block k (by omega) fun e => hn e.symm).trans ?_
    exact Below.heap_alloc w.drew o k hk
  · cases hk
    rcases hat with h | h
    · exact .inl h
    · exact .inr (by omega)
theorem Wro.set {b : Nat} {g g' : Option Nat} {w w' : World} (h : Wro b g g' w w') (o : Nat) (v : Value) : Wro b g g' w (w'.setCell ⟨b, o, none⟩ v) :=
  ⟨h.os, h.tape, h.output, by have := h.size; simpa [World.setCell] using this, fun k hk hb hg => (Below.heap_setCell _ _ _ _ hb).trans (h.block k hk hb hg), h.row⟩
set_option maxHeartbeats 1000000 in
set_option maxRecDepth 100000 in
theorem wnum_any (n k B b : Nat) (g : Option Nat) (l : List UInt8) (w : World) (hw : ByW B w b g l) (hk : k ≤ 3) (hl : l.length ≤ 1000000) :
    Calls Tryd.prog 44 #[.pointer (some ⟨b, 0, none⟩), .int .i64 n, .int .i64 k] w (WnP B b g w (l ++ beB n k)) := by
  obtain ⟨i0, hi, hz0, hz1, hz2⟩ := binfo_parts infoBy
  have HW := bhid hw
  clear hw
  go_enter Tryd.func44, Tryd.ntmps44
  go_wp2
  go_loopw [6] (fun v wr => ∃ (i : Nat) (pre : List UInt8) (g9 : Option Nat), i ≤ k ∧ v = .int .i64 ((i : Int) - 1) ∧ Hid (beB n k = pre ++ beB n i) ∧ pre.length + i = k ∧ Hid (ByW B wr b g9 (l ++ pre)) ∧ Hid (Wro b g g9 w wr)) (fun v _ => (intOf v + 1).toNat)
  case atStart => exact ⟨k, [], g, Nat.le_refl _, rfl, rfl, by simp, by rw [List.append_nil]; exact HW, Wro.refl _ _ _⟩
  case round =>
    obtain ⟨i, pre, g9, hik, rfl, HP, hpl, HY, HX⟩ := hrel
    cases i with
    | zero =>
      have HE := bhid (show WnP B b g w (l ++ beB n k) (.returned (.tuple #[])) wr from ⟨rfl, g9, by rw [HP.out]; simpa [beB] using HY.out, HX.out⟩)
      go_wp2
      go_end0
      exact HE.out
    | succ i =>
      have h3 : i < 3 := by omega
      match i, h3 with
      | 0, _ =>
        obtain ⟨m, hm⟩ : ∃ m, m = n / 256 ^ 0 := ⟨_, rfl⟩
        have hsh : Op.shift BinOp.shr IntKind.i64 (n : Int) IntKind.i64 (IntKind.i64.wrap 0) = pure (.int .i64 (m : Int)) := by
          rw [show IntKind.i64.wrap 0 = 0 by decide, shift_shr_any _ _ _ _ (by decide), hm]
          simp [IntKind.bits]
        have hcv : IntKind.u8.wrap (m : Int) = ((m % 256 : Nat) : Int) := by simp [IntKind.wrap, IntKind.bits, IntKind.signed]
        have HBS := bhid (show byC (l ++ pre ++ [UInt8.ofNat m]) = byC (l ++ pre) ++ [.int .u8 ((m % 256 : Nat) : Int)] from by_snoc _ _)
        have HPS := bhid (show beB n k = pre ++ [UInt8.ofNat m] ++ beB n 0 by rw [HP.out, beB_succ, ← hm]; simp)
        have HAS := bhid (List.append_assoc l pre [UInt8.ofNat m])
        obtain ⟨a, c, h1, h2, h3, h4, h5⟩ := HY.out
        have hc0 : wr.cell? ⟨b, 0, none⟩ = some (.slice a (l ++ pre).length c) := by simp [World.cell?, h1]
        have hf0 : wr.frozen? ⟨b, 0, none⟩ = false := by simp [World.frozen?, h1]
        have hbl : b < wr.heap.size := HY.out.lt
        have hne : b ≠ wr.heap.size := by omega
        have hne' : wr.heap.size ≠ b := by omega
        have H1 := bhid h1
        have H2 := bhid h2
        have H3 := bhid h3
        have H5 := bhid h5
        have hB9 : B ≤ wr.heap.size := by omega
        have hql : (l ++ pre).length ≤ 1000003 := by rw [List.length_append]; omega
        generalize l ++ pre = q at *
        clear h1 h2 h3 h5 hm
        go_upto_region 3 with fail
        go_region_law
          (refine step_append_lies _ (by rfl) _ _ _ (by rfl) B 5 i0 _ 1 1 Tryd.underlying38 hi hz0 hz1 hz2 rfl (by omega) (.slice a q.length c) q.length (byC q) (by rfl) (by exact World.ownsRow.alloc (show World.ownsRow wr.drew _ _ _ _ _ _ from H5.out) _)
               ⟨wr.heap.size, 0, none⟩ 1 1 [.int .u8 ((m % 256 : Nat) : Int)] (by rfl) (by rfl) (by exact bk_one_new wr.drew _ rfl _ _) (by simp [Value.oneCell']) (by omega) (by unfold maxLen; omega) (by omega) (by simp; omega) _ rfl ?_
           intro g2 cap w3 hown3 hgrow hat hlt3
           have HW3 := bhid (wro_grown (b := b) _ hgrow hat)
           have H3b := bhid (show w3.heap[b]? = some (.cells #[.slice a q.length c] 91) from (hgrow.block b (by simp; omega) (fun e => H3.out (H2.out.symm.trans e.symm))).trans ((Below.heap_alloc wr.drew _ b hbl).trans H1.out))
           have q3 : w3.cell? ⟨b, 0, none⟩ = some (.slice a q.length c) := by simp [World.cell?, H3b.out]
           have z3 : w3.frozen? ⟨b, 0, none⟩ = false := by simp [World.frozen?, H3b.out]
           have hg2 : g2 ≠ b := by
             intro e
             rcases hat with h | h
             · exact H3.out (H2.out.symm.trans (by rw [h, e]))
             · simp at h; omega
           clear hgrow hat)
        all_goals
          have HE := bhid (show ByW B (w3.setCell ⟨b, 0, none⟩ (.slice (some ⟨g2, 0, none⟩) (q.length + 1) cap)) b (some g2) (l ++ (pre ++ [UInt8.ofNat m])) by
            rw [← HAS.out]
            refine ⟨some ⟨g2, 0, none⟩, cap, ?_, rfl, fun e => hg2 (Option.some.inj e), h4, ?_⟩
            · have := heap_setCell_same w3 b 0 #[.slice a q.length c] 91 (.slice (some ⟨g2, 0, none⟩) (q.length + 1) cap) H3b.out
              simpa using this
            · rw [HBS.out, List.length_append]
              refine bk_keep hown3 fun g hg => ?_
              cases hg
              exact bk_other hg2)
          have HF := bhid (show Wro b g (some g2) w (w3.setCell ⟨b, 0, none⟩ (.slice (some ⟨g2, 0, none⟩) (q.length + 1) cap)) from HX.out.trans (H2.out ▸ HW3.out.set 0 _))
          have hpl2 : (pre ++ [UInt8.ofNat m]).length + 0 = k := by rw [List.length_append]; simp; omega
          clear hown3
          go_wp2
          go_roundw
          case rel => first | exact ⟨0, pre ++ [UInt8.ofNat m], some g2, by omega, by first | rfl | go_num, HPS, hpl2, HE, HF⟩ | ((repeat apply Exists.intro); exact ⟨⟨0, pre ++ [UInt8.ofNat m], some g2, by omega, by first | rfl | go_num, HPS, hpl2, HE, HF⟩, rfl⟩)
          case measure => simp [intOf]
      | 1, _ =>
        obtain ⟨m, hm⟩ : ∃ m, m = n / 256 ^ 1 := ⟨_, rfl⟩
        have hsh : Op.shift BinOp.shr IntKind.i64 (n : Int) IntKind.i64 (IntKind.i64.wrap 8) = pure (.int .i64 (m : Int)) := by
          rw [show IntKind.i64.wrap 8 = 8 by decide, shift_shr_any _ _ _ _ (by decide), hm]
          simp [IntKind.bits]
        have hcv : IntKind.u8.wrap (m : Int) = ((m % 256 : Nat) : Int) := by simp [IntKind.wrap, IntKind.bits, IntKind.signed]
        have HBS := bhid (show byC (l ++ pre ++ [UInt8.ofNat m]) = byC (l ++ pre) ++ [.int .u8 ((m % 256 : Nat) : Int)] from by_snoc _ _)
        have HPS := bhid (show beB n k = pre ++ [UInt8.ofNat m] ++ beB n 1 by rw [HP.out, beB_succ, ← hm]; simp)
        have HAS := bhid (List.append_assoc l pre [UInt8.ofNat m])
        obtain ⟨a, c, h1, h2, h3, h4, h5⟩ := HY.out
        have hc0 : wr.cell? ⟨b, 0, none⟩ = some (.slice a (l ++ pre).length c) := by simp [World.cell?, h1]
        have hf0 : wr.frozen? ⟨b, 0, none⟩ = false := by simp [World.frozen?, h1]
        have hbl : b < wr.heap.size := HY.out.lt
        have hne : b ≠ wr.heap.size := by omega
        have hne' : wr.heap.size ≠ b := by omega
        have H1 := bhid h1
        have H2 := bhid h2
        have H3 := bhid h3
        have H5 := bhid h5
        have hB9 : B ≤ wr.heap.size := by omega
        have hql : (l ++ pre).length ≤ 1000003 := by rw [List.length_append]; omega
        generalize l ++ pre = q at *
        clear h1 h2 h3 h5 hm
        go_upto_region 3 with fail
        go_region_law
          (refine step_append_lies _ (by rfl) _ _ _ (by rfl) B 5 i0 _ 1 1 Tryd.underlying38 hi hz0 hz1 hz2 rfl (by omega) (.slice a q.length c) q.length (byC q) (by rfl) (by exact World.ownsRow.alloc (show World.ownsRow wr.drew _ _ _ _ _ _ from H5.out) _)
               ⟨wr.heap.size, 0, none⟩ 1 1 [.int .u8 ((m % 256 : Nat) : Int)] (by rfl) (by rfl) (by exact bk_one_new wr.drew _ rfl _ _) (by simp [Value.oneCell']) (by omega) (by unfold maxLen; omega) (by omega) (by simp; omega) _ rfl ?_
           intro g2 cap w3 hown3 hgrow hat hlt3
           have HW3 := bhid (wro_grown (b := b) _ hgrow hat)
           have H3b := bhid (show w3.heap[b]? = some (.cells #[.slice a q.length c] 91) from (hgrow.block b (by simp; omega) (fun e => H3.out (H2.out.symm.trans e.symm))).trans ((Below.heap_alloc wr.drew _ b hbl).trans H1.out))
           have q3 : w3.cell? ⟨b, 0, none⟩ = some (.slice a q.length c) := by simp [World.cell?, H3b.out]
           have z3 : w3.frozen? ⟨b, 0, none⟩ = false := by simp [World.frozen?, H3b.out]
           have hg2 : g2 ≠ b := by
             intro e
             rcases hat with h | h
             · exact H3.out (H2.out.symm.trans (by rw [h, e]))
             · simp at h; omega
           clear hgrow hat)
        all_goals
          have HE := bhid (show ByW B (w3.setCell ⟨b, 0, none⟩ (.slice (some ⟨g2, 0, none⟩) (q.length + 1) cap)) b (some g2) (l ++ (pre ++ [UInt8.ofNat m])) by
            rw [← HAS.out]
            refine ⟨some ⟨g2, 0, none⟩, cap, ?_, rfl, fun e => hg2 (Option.some.inj e), h4, ?_⟩
            · have := heap_setCell_same w3 b 0 #[.slice a q.length c] 91 (.slice (some ⟨g2, 0, none⟩) (q.length + 1) cap) H3b.out
              simpa using this
            · rw [HBS.out, List.length_append]
              refine bk_keep hown3 fun g hg => ?_
              cases hg
              exact bk_other hg2)
          have HF := bhid (show Wro b g (some g2) w (w3.setCell ⟨b, 0, none⟩ (.slice (some ⟨g2, 0, none⟩) (q.length + 1) cap)) from HX.out.trans (H2.out ▸ HW3.out.set 0 _))
          have hpl2 : (pre ++ [UInt8.ofNat m]).length + 1 = k := by rw [List.length_append]; simp; omega
          clear hown3
          go_wp2
          go_roundw
          case rel => first | exact ⟨1, pre ++ [UInt8.ofNat m], some g2, by omega, by first | rfl | go_num, HPS, hpl2, HE, HF⟩ | ((repeat apply Exists.intro); exact ⟨⟨1, pre ++ [UInt8.ofNat m], some g2, by omega, by first | rfl | go_num, HPS, hpl2, HE, HF⟩, rfl⟩)
          case measure => simp [intOf]
      | 2, _ =>
        obtain ⟨m, hm⟩ : ∃ m, m = n / 256 ^ 2 := ⟨_, rfl⟩
        have hsh : Op.shift BinOp.shr IntKind.i64 (n : Int) IntKind.i64 (IntKind.i64.wrap 16) = pure (.int .i64 (m : Int)) := by
          rw [show IntKind.i64.wrap 16 = 16 by decide, shift_shr_any _ _ _ _ (by decide), hm]
          simp [IntKind.bits]
        have hcv : IntKind.u8.wrap (m : Int) = ((m % 256 : Nat) : Int) := by simp [IntKind.wrap, IntKind.bits, IntKind.signed]
        have HBS := bhid (show byC (l ++ pre ++ [UInt8.ofNat m]) = byC (l ++ pre) ++ [.int .u8 ((m % 256 : Nat) : Int)] from by_snoc _ _)
        have HPS := bhid (show beB n k = pre ++ [UInt8.ofNat m] ++ beB n 2 by rw [HP.out, beB_succ, ← hm]; simp)
        have HAS := bhid (List.append_assoc l pre [UInt8.ofNat m])
        obtain ⟨a, c, h1, h2, h3, h4, h5⟩ := HY.out
        have hc0 : wr.cell? ⟨b, 0, none⟩ = some (.slice a (l ++ pre).length c) := by simp [World.cell?, h1]
        have hf0 : wr.frozen? ⟨b, 0, none⟩ = false := by simp [World.frozen?, h1]
        have hbl : b < wr.heap.size := HY.out.lt
        have hne : b ≠ wr.heap.size := by omega
        have hne' : wr.heap.size ≠ b := by omega
        have H1 := bhid h1
        have H2 := bhid h2
        have H3 := bhid h3
        have H5 := bhid h5
        have hB9 : B ≤ wr.heap.size := by omega
        have hql : (l ++ pre).length ≤ 1000003 := by rw [List.length_append]; omega
        generalize l ++ pre = q at *
        clear h1 h2 h3 h5 hm
        go_upto_region 3 with fail
        go_region_law
          (refine step_append_lies _ (by rfl) _ _ _ (by rfl) B 5 i0 _ 1 1 Tryd.underlying38 hi hz0 hz1 hz2 rfl (by omega) (.slice a q.length c) q.length (byC q) (by rfl) (by exact World.ownsRow.alloc (show World.ownsRow wr.drew _ _ _ _ _ _ from H5.out) _)
               ⟨wr.heap.size, 0, none⟩ 1 1 [.int .u8 ((m % 256 : Nat) : Int)] (by rfl) (by rfl) (by exact bk_one_new wr.drew _ rfl _ _) (by simp [Value.oneCell']) (by omega) (by unfold maxLen; omega) (by omega) (by simp; omega) _ rfl ?_
           intro g2 cap w3 hown3 hgrow hat hlt3
           have HW3 := bhid (wro_grown (b := b) _ hgrow hat)
           have H3b := bhid (show w3.heap[b]? = some (.cells #[.slice a q.length c] 91) from (hgrow.block b (by simp; omega) (fun e => H3.out (H2.out.symm.trans e.symm))).trans ((Below.heap_alloc wr.drew _ b hbl).trans H1.out))
           have q3 : w3.cell? ⟨b, 0, none⟩ = some (.slice a q.length c) := by simp [World.cell?, H3b.out]
           have z3 : w3.frozen? ⟨b, 0, none⟩ = false := by simp [World.frozen?, H3b.out]
           have hg2 : g2 ≠ b := by
             intro e
             rcases hat with h | h
             · exact H3.out (H2.out.symm.trans (by rw [h, e]))
             · simp at h; omega
           clear hgrow hat)
        all_goals
          have HE := bhid (show ByW B (w3.setCell ⟨b, 0, none⟩ (.slice (some ⟨g2, 0, none⟩) (q.length + 1) cap)) b (some g2) (l ++ (pre ++ [UInt8.ofNat m])) by
            rw [← HAS.out]
            refine ⟨some ⟨g2, 0, none⟩, cap, ?_, rfl, fun e => hg2 (Option.some.inj e), h4, ?_⟩
            · have := heap_setCell_same w3 b 0 #[.slice a q.length c] 91 (.slice (some ⟨g2, 0, none⟩) (q.length + 1) cap) H3b.out
              simpa using this
            · rw [HBS.out, List.length_append]
              refine bk_keep hown3 fun g hg => ?_
              cases hg
              exact bk_other hg2)
          have HF := bhid (show Wro b g (some g2) w (w3.setCell ⟨b, 0, none⟩ (.slice (some ⟨g2, 0, none⟩) (q.length + 1) cap)) from HX.out.trans (H2.out ▸ HW3.out.set 0 _))
          have hpl2 : (pre ++ [UInt8.ofNat m]).length + 2 = k := by rw [List.length_append]; simp; omega
          clear hown3
          go_wp2
          go_roundw
          case rel => first | exact ⟨2, pre ++ [UInt8.ofNat m], some g2, by omega, by first | rfl | go_num, HPS, hpl2, HE, HF⟩ | ((repeat apply Exists.intro); exact ⟨⟨2, pre ++ [UInt8.ofNat m], some g2, by omega, by first | rfl | go_num, HPS, hpl2, HE, HF⟩, rfl⟩)
          case measure => simp [intOf]
end Go.Proofs.YtaaenhjhjclilabDoor
