/-
  What glob.matches does: the walk (a range over a function).
-/
import Derived.Test.YtaolohlpdampgaaMatches
import Derived.Outline
namespace Go.Proofs.Ytaolohlpdampgaa
open Go.RowKit Go.Shelf
attribute [local go_sem] Oper.semAt_some

theorem pieces_stops (F : Fence) (n : Nat) (h6 : F.fn 27) (hro : F.round = none) (hn : 1 ≤ n) (Bn : Nat) (p : ByteArray) (hp : p.size ≤ 1048576) (w : World) (hBn : Bn < w.heap.size)
    (hc : w.cell? ⟨Bn, 0, none⟩ = some (.string p)) :
    SeqStopsK F n Try.prog 27 #[.pointer (some ⟨Bn, 0, none⟩)] pieceV (KeepAt Bn) (fun ys => ys = piecesL p.data.toList) (fun pre => pre <+: piecesL p.data.toList) (piecesL p.data.toList).length w := fun l J Jx W hW hJ _ hY h0 =>
  pieces1_in F n h6 hro hn l Bn p hp J Jx W (Nat.lt_of_lt_of_le hBn hW.size) hJ hY ((hW.cell (p := ⟨Bn, 0, none⟩) hBn).trans hc) h0

theorem rising_len {n : Nat} : ∀ {zs : List Nat} {a : Nat}, zs.Pairwise (· < ·) → (∀ i ∈ zs, a ≤ i ∧ i ≤ n) → zs.length ≤ n + 1 - a
  | [], _, _, _ => by simp
  | i :: r, a, h, hm => by
    have h' := List.pairwise_cons.1 h
    have ih := rising_len (n := n) (zs := r) (a := i + 1) h'.2 (fun j hj => ⟨h'.1 j hj, (hm j (List.mem_cons_of_mem _ hj)).2⟩)
    have := hm i (by simp)
    simp only [List.length_cons]
    omega
theorem runL_len (S : List UInt8) (ps : List Piece) : (runL S ps).length ≤ S.length + 1 := by
  have h := rising_runL S ps
  exact rising_len (a := 0) h.1 (fun i hi => ⟨Nat.zero_le _, h.2 i hi⟩)

theorem own_slice {w : World} {b : Nat} {e : TypeId} {v : Value} {n : Nat} {xs : List Value} (h : w.ownsRow b e 1 v n xs) : ∃ ao cap, v = .slice ao n cap := by
  rcases h.2 with ⟨h, h0⟩ | ⟨g, cap, cur, h1, r⟩
  · exact ⟨none, 0, by rw [h, h0]⟩
  · exact ⟨_, _, h1⟩
theorem keeps_below {W W' : World} (h : Below W.heap.size W W') : KeepsOthers W W' := ⟨h.size, fun k _ hk _ => (h.block k (Array.getElem?_eq_some_iff.1 hk).1).trans hk⟩
theorem boxed_below {W W' : World} {B : Nat} {t : TypeId} {v : Value} (h : Boxed W B t v) (hb : Below W.heap.size W W') : Boxed W' B t v := (hb.block B h.lt).trans h
theorem keepAt_below {W W' : World} (b : Nat) (h : Below W.heap.size W W') : KeepAt b W W' := ⟨h.size, fun hb => h.block b hb⟩
theorem KeepAt.set {b c : Nat} {A B : World} (h : KeepAt b A B) (hc : b ≠ c) (v : Value) : KeepAt b A (B.setCell ⟨c, 0, none⟩ v) := h.trans ⟨(grownBy_setCell' B c v).size, fun hb => (grownBy_setCell' B c v).block b hb (fun e => hc (by cases e; rfl))⟩
theorem own_set {W : World} {b B : Nat} {e t : TypeId} {v u x : Value} {n : Nat} {xs : List Value} (h : W.ownsRow b e 1 v n xs) (hB : Boxed W B t u) (hte : t ≠ e) : (W.setCell ⟨B, 0, none⟩ x).ownsRow b e 1 v n xs :=
  h.kept (grownBy_setCell' W B x) (.inr (fun he => hB.not_row hte h he.symm))

/-- What a call of glob.reach leaves, inside a fence. -/
def ReachIn (F : Fence) : Prop :=
  ∀ (m : Nat) (s : ByteArray) (S : List UInt8) (p : Piece) (v : Value) (base : Nat) (zs : List Nat) (w : World), S = s.data.toList → s.size ≤ 1048576 → zs ≠ [] → Rising S.length zs → zs.length ≤ 1048577 → w.ownsRow base 3 1 v zs.length (cellsI zs) →
    CallsIn F m Try.prog 23 #[.string s, .agg #[.int .i64 p.1, .int .u8 p.2.toNat], v] w fun e w' =>
      ∃ v', e = .returned v' ∧ w'.ownsRow w.heap.size 3 1 v' (reachL S p zs).length (cellsI (reachL S p zs)) ∧ Below w.heap.size w w'

set_option maxRecDepth 100000 in
set_option maxHeartbeats 2000000 in
theorem matches_in (F : Fence) (n : Nat) (h3 : F.fn 18) (h4 : F.fn 22) (h5 : F.fn 27) (h6 : F.fn 23) (hro : F.round = none) (hw : Hid (F = Fence.wide)) (hRe : ReachIn F) (hn : 6 ≤ n) (s p : ByteArray) (hs : s.size ≤ 2000) (hp : p.size ≤ 1048576) (w : World) :
    CallsIn F n Try.prog 18 #[.string s, .string p] w fun e W' => e = .returned (.bool (globB s.data.toList p.data.toList)) ∧ Below w.heap.size w W' := by
  have h1 : 1 ≤ n := by omega
  refine callsIn_of_wp_marks Try.func18 rfl h3 ?_ hro
  simp only [Try.ntmps18, List.size_toArray, List.length_cons, List.length_nil, Nat.reduceAdd, Nat.reduceSub, Array.replicate_succ, Array.replicate_zero, List.push_toArray, List.append_toArray, List.nil_append, List.cons_append]
  gi_wp2_with (gi_at_call 22; refine (pieces_in F (n - 1) h4 hro _ _).mono ?_; rintro e w' ⟨rfl, rfl⟩)
  obtain ⟨S, hS⟩ : ∃ S, S = s.data.toList := ⟨_, rfl⟩
  have hSn : S.length = s.size := by rw [hS]; exact size_list s
  have HS : Hid _ := hS
  clear hS
  have bS := (((((Boxed.new w 9 (.string s)).alloc (.cells #[.bool false] 4)).alloc (.cells #[.int .i64 0] 3)).alloc (.cells #[.slice (some ⟨w.heap.size + 1 + 1, 0, none⟩) 1 1] 37)).alloc (.cells #[.string p] 9))
  have bR := (((Boxed.new (w.alloc (.cells #[.string s] 9)) 4 (.bool false)).alloc (.cells #[.int .i64 0] 3)).alloc (.cells #[.slice (some ⟨w.heap.size + 1 + 1, 0, none⟩) 1 1] 37)).alloc (.cells #[.string p] 9)
  have bV := (Boxed.new (((w.alloc (.cells #[.string s] 9)).alloc (.cells #[.bool false] 4)).alloc (.cells #[.int .i64 0] 3)) 37 (.slice (some ⟨w.heap.size + 1 + 1, 0, none⟩) 1 1)).alloc (.cells #[.string p] 9)
  have bP := Boxed.new ((((w.alloc (.cells #[.string s] 9)).alloc (.cells #[.bool false] 4)).alloc (.cells #[.int .i64 0] 3)).alloc (.cells #[.slice (some ⟨w.heap.size + 1 + 1, 0, none⟩) 1 1] 37)) 9 (.string p)
  have hrow0 := ((World.ownsRow_lit (base := w.heap.size) (e := 3) (size := 1) ((w.alloc (.cells #[.string s] 9)).alloc (.cells #[.bool false] 4)) #[.int .i64 0] 1 (by simp; omega) (by simp [maxLen]) rfl).alloc (.cells #[.slice (some ⟨w.heap.size + 1 + 1, 0, none⟩) 1 1] 37)).alloc (.cells #[.string p] 9)
  simp only [World.size_alloc] at bR bV bP hrow0
  have hB0 : Below w.heap.size w (((((w.alloc (.cells #[.string s] 9)).alloc (.cells #[.bool false] 4)).alloc (.cells #[.int .i64 0] 3)).alloc (.cells #[.slice (some ⟨w.heap.size + 1 + 1, 0, none⟩) 1 1] 37)).alloc (.cells #[.string p] 9)) :=
    (((((Below.refl _ w).alloc (Nat.le_refl _) _).alloc (by simp) _).alloc (by simp; omega) _).alloc (by simp; omega) _).alloc (by simp; omega) _
  have hsz : (((((w.alloc (.cells #[.string s] 9)).alloc (.cells #[.bool false] 4)).alloc (.cells #[.int .i64 0] 3)).alloc (.cells #[.slice (some ⟨w.heap.size + 1 + 1, 0, none⟩) 1 1] 37)).alloc (.cells #[.string p] 9)).heap.size = w.heap.size + 5 := by simp
  obtain ⟨W0, hW0⟩ : ∃ W0, ((((w.alloc (.cells #[.string s] 9)).alloc (.cells #[.bool false] 4)).alloc (.cells #[.int .i64 0] 3)).alloc (.cells #[.slice (some ⟨w.heap.size + 1 + 1, 0, none⟩) 1 1] 37)).alloc (.cells #[.string p] 9) = W0 := ⟨_, rfl⟩
  rw [hW0] at bS bR bV bP hrow0 hB0 hsz ⊢
  clear hW0
  refine wpIn_rangeFunc_ownH hro h1 (gf := 27) (lb := #[.pointer (some ⟨w.heap.size + 1 + 1 + 1 + 1, 0, none⟩)]) rfl h5 (enters_of Try.func27 (by kernel_rfl) rfl)
    (pieces_stops F (n - 1) h5 hro (by omega) (w.heap.size + 1 + 1 + 1 + 1) p hp W0 (by omega) bP.cell) KeepAt.trans (KeepAt.put (by omega)) (Below.refl _ _) (fun _ => rfl)
    (fun pre W => ((∃ v, Boxed W (w.heap.size + 1 + 1 + 1) 37 v ∧ W.ownsRow w.heap.size 3 1 v (runL S pre).length (cellsI (runL S pre)) ∧ runL S pre ≠ []) ∧ (Boxed W w.heap.size 9 (.string s) ∧ Boxed W (w.heap.size + 1) 4 (.bool false))) ∧ Below w.heap.size w W)
    (fun c pre W => ((c = .ret ∧ runL S pre = []) ∧ Boxed W (w.heap.size + 1) 4 (.bool false)) ∧ Below w.heap.size w W)
    (OwnFrom.and (OwnFrom.and (Own.from (holdsRow_own w.heap.size (w.heap.size + 1 + 1 + 1) 37 3 1 (fun pre => (runL S pre).length) (fun pre => cellsI (runL S pre)) (fun pre _ => runL S pre ≠ [])) _) (OwnFrom.and (Own.from (boxed_own _ _ _) _) (Own.from (boxed_own _ _ _) _))) (ownFrom_below (Nat.le_refl _) (by omega)))
    (fun c => OwnFrom.and (OwnFrom.and (ownFrom_pure _ _) (Own.from (boxed_own _ _ _) _)) (ownFrom_below (Nat.le_refl _) (by omega)))
    ⟨⟨⟨_, bV, hrow0, by simp [runL]⟩, bS, bR⟩, hB0⟩
    (fun x a' W => ∃ Bx : Nat, W.heap[Bx]? = some (.cells #[.int .i64 x.1, .int .u8 x.2.toNat] 42 (0, 0)) ∧ a' = { tmps := #[.string s, .string p, .pointer (some ⟨w.heap.size, 0, none⟩), undef, .pointer (some ⟨w.heap.size + 1, 0, none⟩), .pointer (some ⟨w.heap.size + 1 + 1 + 1, 0, none⟩), .pointer (some ⟨Bx, 0, none⟩), .slice (some ⟨w.heap.size + 1 + 1, 0, none⟩) 1 1, .string p, .func (.func 27) #[] #[.pointer (some ⟨w.heap.size + 1 + 1 + 1 + 1, 0, none⟩)], .agg #[.int .i64 x.1, .int .u8 x.2.toNat], undef, undef, undef, undef, undef, undef, undef, undef, undef, undef, undef, undef, undef, undef, undef, undef], defers := [] })
    (fun x a' _ X Y row hs hg hr => by
      obtain ⟨Bx, e2, e3⟩ := hs
      exact ⟨Bx, (hg.block Bx (Array.getElem?_eq_some_iff.1 e2).1 (fun e => by obtain ⟨_, o, ho, hc⟩ := hr Bx e.symm; rw [e2] at ho; cases ho; cases hc)).trans e2, e3⟩)
    ?assign ?body ?done ?stop
  case assign =>
    rintro l pre x W K ⟨⟨⟨v, bV1, hrow, hne⟩, bS1, bR1⟩, hB1⟩ hK
    dsimp only [pieceV]
    gi_wp2
    exact hK _ _ ((KeepsOthers.alloc _ _).from _) ((KeepAt.refl _ W).alloc _) ⟨⟨⟨v, bV1.alloc _, hrow.alloc _, hne⟩, bS1.alloc _, bR1.alloc _⟩, hB1.alloc hB1.size _⟩ ⟨W.heap.size, World.alloc_heap_new W _, rfl⟩
  case body =>
    rintro l pre x a' W hl ⟨r, hr⟩ ⟨⟨⟨v, bV1, hrow, hne⟩, bS1, bR1⟩, hB1⟩ ⟨Bx, hX, rfl⟩ hlt
    obtain ⟨ao, cap, rfl⟩ := own_slice hrow
    have cV := bV1.cell
    have cS := bS1.cell
    have cX0 := cell_of_row W Bx 0 _ _ _ hX
    have cX1 := cell_of_row W Bx 1 _ _ _ hX
    simp only [List.getElem?_toArray, List.getElem?_cons_zero, List.getElem?_cons_succ] at cX0 cX1
    have h1' : 1 ≤ n - 1 - 1 := by omega
    have hris : Rising S.length (runL S pre) := rising_runL S pre
    have hlen : (runL S pre).length ≤ 1048577 := by have := runL_len S pre; omega
    have hs' : s.size ≤ 1048576 := by omega
    have HN : Hid _ := runL_snoc S pre x
    have hwW := hB1.size
    by_cases hz : reachL S x (runL S pre) = []
    · have hz0 : (((reachL S x (runL S pre)).length : Int) == 0) = true := by rw [hz]; rfl
      gi_wp2_with (gi_at_call 23; refine (CallsIn.inRound l (hRe _ s S x _ w.heap.size (runL S pre) W HS.out hs' hne hris hlen hrow)).mono ?_; rintro e W1 ⟨v', rfl, hrow', hb'⟩; obtain ⟨ao', cap', rfl⟩ := own_slice hrow'; have cV1 := (boxed_below bV1 hb').cell; have fV1 := (boxed_below bV1 hb').frozen; have cR1 := (boxed_below bR1 hb').cell; have fR1 := (boxed_below bR1 hb').frozen)
      have hB2 := hB1.trans (hb'.mono hwW)
      exact ⟨((keeps_below hb').trans ((KeepsOthers.setCell _ _ _).trans (KeepsOthers.setCell _ _ _))).from _, ⟨⟨rfl, HN.out.trans hz⟩, ((boxed_below bR1 hb').other (by omega) _).set _⟩,
        (hB2.setCell (p := ⟨w.heap.size + 1 + 1 + 1, 0, none⟩) (by simp; omega) _).setCell (p := ⟨w.heap.size + 1, 0, none⟩) (by simp) _⟩
    · have hz0 : (((reachL S x (runL S pre)).length : Int) == 0) = false := by
        rw [beq_eq_false_iff_ne]
        intro e
        exact hz (List.length_eq_zero_iff.1 (by omega))
      gi_wp2_with (gi_at_call 23; refine (CallsIn.inRound l (hRe _ s S x _ w.heap.size (runL S pre) W HS.out hs' hne hris hlen hrow)).mono ?_; rintro e W1 ⟨v', rfl, hrow', hb'⟩; obtain ⟨ao', cap', rfl⟩ := own_slice hrow'; have cV1 := (boxed_below bV1 hb').cell; have fV1 := (boxed_below bV1 hb').frozen; have cR1 := (boxed_below bR1 hb').cell; have fR1 := (boxed_below bR1 hb').frozen)
      have hB2 := hB1.trans (hb'.mono hwW)
      refine ⟨((keeps_below hb').trans (KeepsOthers.setCell _ _ _)).from _, (keepAt_below _ hb').set (by omega) _, ⟨⟨_, (boxed_below bV1 hb').set _, ?_, ?_⟩, (boxed_below bS1 hb').other (by omega) _, (boxed_below bR1 hb').other (by omega) _⟩, hB2.setCell (p := ⟨w.heap.size + 1 + 1 + 1, 0, none⟩) (by simp; omega) _⟩
      · rw [HN.out]
        exact own_set (own_base hwW hrow') (boxed_below bV1 hb') (by decide)
      · rw [HN.out]
        exact hz
  case done =>
    rintro D zs W hD rfl ⟨⟨⟨v, bV1, hrow, hne⟩, bS1, bR1⟩, hB1⟩ hK
    obtain ⟨z, hlast⟩ : ∃ z, (runL S (piecesL p.data.toList)).getLast? = some z := by
      cases h : (runL S (piecesL p.data.toList)).getLast? with
      | none => exact absurd (List.getLast?_eq_none_iff.1 h) hne
      | some z => exact ⟨z, rfl⟩
    have HG : Hid _ := gm_last hlast
    obtain ⟨q, hq⟩ : ∃ q, (runL S (piecesL p.data.toList)).length = q + 1 := ⟨(runL S (piecesL p.data.toList)).length - 1, by have := List.length_pos_iff.2 hne; omega⟩
    have hqz : (cellsI (runL S (piecesL p.data.toList)))[q]? = some (.int .i64 (z : Int)) := by
      rw [List.getLast?_eq_getElem?, hq] at hlast
      simp only [Nat.add_sub_cancel] at hlast
      simp [cellsI, hlast]
    have hql := runL_len S (piecesL p.data.toList)
    rw [hq] at hrow hql
    obtain ⟨g, cap, rfl⟩ := ownsRow_succ hrow
    have cG := (hrow.cellAt q (by omega)).trans hqz
    have cV := bV1.cell
    have cS := bS1.cell
    have cR := bR1.cell
    have fR := bR1.frozen
    clear hqz hlast hrow hq hne
    have hi1 : (0 : Int) ≤ (q : Int) := by omega
    have hi2 : (q : Int) < (q : Int) + 1 := by omega
    gi_wp2
    have hw' := hw.out
    subst hw'
    gi_region
    gi_wp2
    have hK' : ((W.setCell ⟨w.heap.size + 1, 0, none⟩ (.bool ((z : Int) == (s.size : Int)))).drew).heap[D]? = some (.deferred (some [])) := (KeepsOthers.setCell W ⟨w.heap.size + 1, 0, none⟩ (.bool ((z : Int) == (s.size : Int)))).same D _ hK rfl
    have bR2 : Boxed ((W.setCell ⟨w.heap.size + 1, 0, none⟩ (.bool ((z : Int) == (s.size : Int)))).drew) (w.heap.size + 1) 4 (.bool ((z : Int) == (s.size : Int))) := bR1.set (.bool ((z : Int) == (s.size : Int)))
    refine ⟨by simp, .inl ⟨_, _, rfl, run_takeDeferred hK', ?_⟩⟩
    have hc5 := cell_kept bR2.cell (grownBy_putObj' _ D (.deferred none)) (fun r e => by cases e; exact ⟨_, hK', rfl⟩)
    refine ⟨.bool ((z : Int) == (s.size : Int)), ?_, ?_, ((hB1.setCell (p := ⟨w.heap.size + 1, 0, none⟩) (by simp) _).drew).trans (belowK_b (w := w) (Nat.le_refl _) _ D _ _ (by omega) hK' rfl rfl)⟩
    · simp [results, Try.f18, go_sem, hc5]
    · have h := HG.out
      rw [hSn, HS.out] at h
      rw [globB, h]
      congr 2
      rw [Bool.eq_iff_iff]
      simp
      omega
  case stop =>
    rintro D c pre W hD hpre ⟨⟨⟨rfl, h0⟩, bR1⟩, hB1⟩ hK
    gi_wp2
    refine ⟨by simp, .inl ⟨_, _, rfl, run_takeDeferred hK, ?_⟩⟩
    have hc5 := cell_kept bR1.cell (grownBy_putObj' _ D (.deferred none)) (fun r e => by cases e; exact ⟨_, hK, rfl⟩)
    refine ⟨.bool false, ?_, ?_, hB1.trans (belowK_b (w := w) (Nat.le_refl _) W D _ _ (by omega) hK rfl rfl)⟩
    · simp [results, Try.f18, go_sem, hc5]
    · have := gm_stop hpre h0
      rw [HS.out] at this
      rw [globB, this]

theorem reachIn_wide : ReachIn Fence.wide := fun _ s S p v base zs w hS hs hne hr hl hown => by
  subst hS
  exact callsIn_wide.2 (reach_any s p v base zs w hs hne hr hl hown)

/-- glob.matches: whether the text matches the pattern; nothing old turns. -/
theorem matches_any (s p : ByteArray) (w : World) (hs : s.size ≤ 2000) (hp : p.size ≤ 1048576) :
    Calls Try.prog 18 #[.string s, .string p] w fun e W' => e = .returned (.bool (globB s.data.toList p.data.toList)) ∧ Below w.heap.size w W' :=
  (callsIn_wide (n := 6)).1 (matches_in Fence.wide 6 trivial trivial trivial trivial rfl rfl reachIn_wide (Nat.le_refl _) s p hs hp w)
end Go.Proofs.Ytaolohlpdampgaa
