/-
  What a room tells of what was done: the walk.
  A room that open hands back, in memory.
  What post.Run does with acts that may be: the walk, over what each act does.
  Two states that are the same are found so: the walk of the laws' sameState.
-/
import Derived.Test.YtlfgemnmfhknfaaGreatDoorYQTokMark6
import Derived.Test.YtlfgemnmfhknfaaGreatDoorYQLmLine8
import Derived.Deep.MidRow
import Derived.Test.YtlfgemnmfhknfaaGreatDoorYQPoOp44
import Derived.Test.YtlfgemnmfhknfaaGreatDoorYQPoDo7
import Derived.Test.YtlfgemnmfhknfaaGreatDoorYQPoMod9
import Derived.Test.YtlfgemnmfhknfaaGreatDoorRows
import Derived.WalkKit
import Derived.Deep.QuietTactic
import Derived.BigQuiet
namespace Go.Proofs.YtlfgemnmfhknfaaGreatDoor
open Go.RowKit Go.Proofs
structure OutM (N : Nat) (w : World) (R : Rom) (vc vo vs : Value) : Prop where
  co : RowM (N ≤ ·) 1 (fun l cs => ∃ v, cs = [v] ∧ IntsM (N ≤ ·) w v l) w vc [R.c0.told, R.c1.told, R.c2.told]
  od : RowM (N ≤ ·) 1 (fun l cs => ∃ v, cs = [v] ∧ IntsM (N ≤ ·) w v l) w vo R.orders
  sf : RowM (N ≤ ·) 2 (SttV (N ≤ ·) w) w vs R.safe
def OutP (N : Nat) (w : World) (R : Rom) (e : Ending) (w' : World) : Prop := ∃ ac cc ao co as_ cs, e = .returned (.agg #[.bool R.up, .slice ac 3 cc, .slice ao R.orders.length co, .slice as_ R.safe.length cs, .int .i64 R.waits]) ∧ OutM N w' R (.slice ac 3 cc) (.slice ao R.orders.length co) (.slice as_ R.safe.length cs) ∧ Below w.heap.size w w'
def OuB (w : World) (v0 v1 v2 v3 v4 p : Value) (wx : World) : Prop := p = .pointer (some ⟨w.heap.size, 0, none⟩) ∧ wx.heap[w.heap.size]? = some (.cells #[v0, v1, v2, v3, v4] 37) ∧ Below w.heap.size w wx
theorem OuB.new {w : World} (v0 v1 v2 v3 v4 : Value) : OuB w v0 v1 v2 v3 v4 (.pointer (some ⟨w.heap.size, 0, none⟩)) (w.alloc (.cells #[v0, v1, v2, v3, v4] 37)).drew :=
  ⟨rfl, heap_alloc_new w _, ((Below.refl _ _).alloc (Nat.le_refl _) _).drew⟩
theorem jgn {w : World} {b : Nat} {R : Rom} {X : Vals} (h : RmB w b (vw R X)) : w.rangeAt b 7 (conC R.c0 X.c0 ++ conC R.c1 X.c1 ++ conC R.c2 X.c2) := by
  intro j v hj; have hl : j < 27 := by
    have := (List.getElem?_eq_some_iff.1 hj).1
    simpa [conC] using this
  refine h.cell ?_; rw [← hj]; unfold vw; rw [List.append_assoc, List.append_assoc, List.append_assoc, List.getElem?_append_right (by simp), show (7 + j - _ : Nat) = j by simp, ← List.append_assoc, ← List.append_assoc]; exact List.getElem?_append_left (by simpa [conC] using hl)
theorem jmd (x0 x1 x2 x3 x4 x5 x6 x7 x8 x9 x10 x11 x12 x13 x14 x15 x16 x17 x18 x19 x20 x21 x22 x23 x24 x25 x26 : Value) : (∀ u, (Instr.index 88 (.agg #[x0, x1, x2, x3, x4, x5, x6, x7, x8, x9, x10, x11, x12, x13, x14, x15, x16, x17, x18, x19, x20, x21, x22, x23, x24, x25, x26]) (.int .i64 0)).run Tryz.prog u = .ok (.agg #[x0, x1, x2, x3, x4, x5, x6, x7, x8]) u) ∧
    (∀ u, (Instr.index 88 (.agg #[x0, x1, x2, x3, x4, x5, x6, x7, x8, x9, x10, x11, x12, x13, x14, x15, x16, x17, x18, x19, x20, x21, x22, x23, x24, x25, x26]) (.int .i64 1)).run Tryz.prog u = .ok (.agg #[x9, x10, x11, x12, x13, x14, x15, x16, x17]) u) ∧
    (∀ u, (Instr.index 88 (.agg #[x0, x1, x2, x3, x4, x5, x6, x7, x8, x9, x10, x11, x12, x13, x14, x15, x16, x17, x18, x19, x20, x21, x22, x23, x24, x25, x26]) (.int .i64 2)).run Tryz.prog u = .ok (.agg #[x18, x19, x20, x21, x22, x23, x24, x25, x26]) u) := by
  refine ⟨fun u => ?_, fun u => ?_, fun u => ?_⟩ <;> simp [Instr.index, run_underlying Tryz.underlying88, asIntOf, go_sem]
theorem put5 {w : World} {b : Nat} {t : TypeId} (v0 v1 v2 v3 v4 : Value) {u0 u1 u2 u3 u4 : Value} (h : w.heap[b]? = some (.cells #[u0, u1, u2, u3, u4] t)) : (((((w.setCell ⟨b, 0, none⟩ v0).setCell ⟨b, 1, none⟩ v1).setCell ⟨b, 2, none⟩ v2).setCell ⟨b, 3, none⟩ v3).setCell ⟨b, 4, none⟩ v4).heap[b]? = some (.cells #[v0, v1, v2, v3, v4] t) := by
  have h := heap_setCell_same _ b 0 _ t v0 h; have h := heap_setCell_same _ b 1 _ t v1 h; have h := heap_setCell_same _ b 2 _ t v2 h; have h := heap_setCell_same _ b 3 _ t v3 h; have h := heap_setCell_same _ b 4 _ t v4 h
  simpa using h
theorem jbs {w : World} {B : Nat} {t : TypeId} {v : Value} {l : List Int} (h : w.ownsRow B t 1 v l.length (l.map fun k => .int .i64 k)) : IntsM (B ≤ ·) w v l := by
  refine jao h ?_ fun g hg => (World.ownsRow.lt h g hg).1
  rcases h.2 with ⟨_, h0⟩ | ⟨g, cap, cur, _, _, _, h1, h2, _⟩
  · omega
  · omega
theorem jhS {N : Nat} {w : World} {v : Value} {vs : List Value} {ls : List (List Int)} (h : RowM (N ≤ ·) 1 (fun x cs => cs = [x]) w v vs) (hl : vs.length = ls.length) (hx : ∀ (i : Nat) x l, vs[i]? = some x → ls[i]? = some l → IntsM (N ≤ ·) w x l) : RowM (N ≤ ·) 1 (fun l cs => ∃ v, cs = [v] ∧ IntsM (N ≤ ·) w v l) w v ls := by
  obtain ⟨a, c, hv, hm, hr⟩ := h; refine ⟨a, c, by rw [← hl]; exact hv, by rw [← hl]; exact hm, fun i l hi => ?_⟩; have hi' : i < vs.length := by rw [hl]; exact (List.getElem?_eq_some_iff.1 hi).1
  obtain ⟨b, o, cs, h1, h2, h3, h4, h5, h6⟩ := hr i vs[i] (List.getElem?_eq_getElem hi'); exact ⟨b, o, cs, h1, h2, h3, h4, h5, _, h6, hx i _ l (List.getElem?_eq_getElem hi') hi⟩
theorem jmR {K : List (List UInt8)} {Cs : List (List Cmd)} {B b : Nat} {G : List Nat} {R : Rom} {X : Vals} {w w' : World} {vc vo vs : Value} (hM : MOk w B b (za R X)) (hQ : RoM (AvN B b G) w K Cs R X) (hb : Below w.heap.size w w') (hc : RowM (B ≤ ·) 1 (fun x cs => cs = [x]) w' vc [X.c0.l, X.c1.l, X.c2.l]) (hv : X.od = vo) (hs : X.sf = vs) : OutM B w' R vc vo vs := by
  have hM' := hM.next hb; have hi : ∀ r ∈ za R X, w'.ownsRow B r.e r.k r.v r.n r.xs := hM'.own; have t0 : IntsM (B ≤ ·) w' X.c0.l R.c0.told := jbs (hi (intR 3 X.c0.l R.c0.told) (by simp [za])); have t1 : IntsM (B ≤ ·) w' X.c1.l R.c1.told := jbs (hi (intR 3 X.c1.l R.c1.told) (by simp [za])); have t2 : IntsM (B ≤ ·) w' X.c2.l R.c2.told := jbs (hi (intR 3 X.c2.l R.c2.told) (by simp [za])); have ho : ∀ u, u < 3 → IntsM (B ≤ ·) w' (X.os.getD u (.slice none 0 0)) (R.orders.getD u []) := fun u hu => jbs (hi (intR 46 (X.os.getD u (.slice none 0 0)) (R.orders.getD u [])) (by
    unfold za; exact List.mem_append_right _ (List.mem_map.2 ⟨u, List.mem_range.2 hu, rfl⟩)))
  refine ⟨jhS hc rfl fun i x l h1 h2 => ?_, ?_, ?_⟩
  · match i, h1, h2 with
    | 0, h1, h2 => cases h1; cases h2; exact t0
    | 1, h1, h2 => cases h1; cases h2; exact t1
    | 2, h1, h2 => cases h1; cases h2; exact t2
    | n + 3, h1, h2 => simp at h1
  · have hod := hi (ordR X.od X.os) (by simp [za]); rw [← hv]; refine jhS (jao (f := fun x => x) (by simpa [ordR] using hod) (by rw [hQ.os.1]; unfold maxLen; decide) fun g hg => (World.ownsRow.lt hod g hg).1) (by rw [hQ.os.1, hQ.os.2]) fun i x l h1 h2 => ?_
    have h3 : i < 3 := by rw [← hQ.os.1]; exact (List.getElem?_eq_some_iff.1 h1).1
    have := ho i h3; rw [List.getD_eq_getElem?_getD, List.getD_eq_getElem?_getD, h1, h2] at this; exact this
  · rw [← hs]; exact RowM.imp hQ.sf (fun _ h => h.1) (Keeps.of_below hb) fun s cs h => by
      obtain ⟨vb, vs, e, h⟩ := h; exact ⟨vb, vs, e, h.imp (fun _ h => h.1) (Keeps.of_below hb)⟩
theorem jmN : (Tryz.prog.info? 88).map (·.size) = some 27 := by kernel_rfl
theorem jmI : (Tryz.prog.info? 25).map (fun i => (i.zero, i.size, i.bytes)) = some (some (.slice none 0 0), 1, 24) := by kernel_rfl
set_option maxHeartbeats 2000000 in
set_option maxRecDepth 100000 in
theorem jfj (K : List (List UInt8)) (Cs : List (List Cmd)) (B b : Nat) (G : List Nat) (R : Rom) (w : World) (hR : RoomM K Cs B b G R w) :
    Calls Tryz.prog 20 #[.pointer (some ⟨b, 0, none⟩)] w (OutP B w R) := by
  obtain ⟨X, hG, hB, hX, hM, hQ⟩ := hR; obtain ⟨asf, csf, hsf⟩ := RowM.slice hQ.sf; have hod := hM.own (ordR X.od X.os) (by simp [za]); obtain ⟨aod, cod, hodv, _⟩ := qJ hod; simp only [ordR] at hodv; rw [hQ.os.1] at hodv; obtain ⟨i0, hi0, hz0, hz1, hz2⟩ := info_parts jmI; have hs : ∀ i, i < 3 → ∃ a c a' c' a'' c'', (X.con i).l = .slice a (R.con i).told.length c ∧ (X.con i).t = .slice a' (R.con i).ses.to.length c' ∧ (X.con i).d = .slice a'' (R.con i).due.length c'' := fun i hi => by
    obtain ⟨A, Z, hA, _⟩ := vI R X hi; obtain ⟨a, c, h, _⟩ := qJ (hM.own (intR 3 (X.con i).l (R.con i).told) (by rw [hA]; simp)); obtain ⟨a', c', h'⟩ := RowM.slice (hQ.con hi).gl; obtain ⟨a'', c'', h''⟩ := qo (hQ.con hi).du; exact ⟨a, c, a', c', a'', c'', h, h', h''⟩
  obtain ⟨al0, cl0, at0, ct0, ad0, cd0, el0, et0, ed0⟩ := hs 0 (by omega); obtain ⟨al1, cl1, at1, ct1, ad1, cd1, el1, et1, ed1⟩ := hs 1 (by omega); obtain ⟨al2, cl2, at2, ct2, ad2, cd2, el2, et2, ed2⟩ := hs 2 (by omega); simp only [Vals.con, Rom.con] at el0 et0 ed0 el1 et1 ed1 el2 et2 ed2; obtain ⟨W1, hW1⟩ : ∃ W1, W1 = w.alloc (.cells #[.bool false, .slice none 0 0, .slice none 0 0, .slice none 0 0, .int .i64 0] 37) := ⟨_, rfl⟩; have hB1 : Below w.heap.size w W1 := by rw [hW1]; exact (Below.refl _ _).alloc (Nat.le_refl _) _
  have hX1 := hX.next hB1; have x0 : W1.cell? ⟨b, 0, none⟩ = some (.bool R.up) := hX1.cell rfl; have x4 : W1.cell? ⟨b, 4, none⟩ = some (.int .i64 R.waits) := hX1.cell rfl; have x5 : W1.cell? ⟨b, 5, none⟩ = some (.slice asf R.safe.length csf) := hX1.cell (by rw [← hsf]; rfl); have x36 : W1.cell? ⟨b, 36, none⟩ = some (.slice aod 3 cod) := hX1.cell (by rw [← hodv]; rfl); have HC := hid (show ∀ u, Below W1.heap.size W1 u → u.cell? ⟨b, 0, none⟩ = some (.bool R.up) ∧ u.cell? ⟨b, 4, none⟩ = some (.int .i64 R.waits) ∧ u.cell? ⟨b, 5, none⟩ = some (.slice asf R.safe.length csf) ∧ u.cell? ⟨b, 36, none⟩ = some (.slice aod 3 cod) from
    fun u hu => ⟨ja x0 hu, ja x4 hu, ja x5 hu, ja x36 hu⟩)
  have HX := hid hX; have HWE := hid hW1; have HB1 := hid hB1; have HQ := hid hQ; have HM := hid hM; clear hG hX hM hQ hX1 hW1 hB1 hod; go_enter Tryz.func20, Tryz.ntmps20; go_upto_region 1 with fail
  rw [← HWE.out]
  go_cut [3] (fun p wx => OuB W1 (.bool R.up) (.slice none 0 0) (.slice aod 3 cod) (.slice asf R.safe.length csf) (.int .i64 R.waits) p wx)
  case first =>
    go_region_held3 (fun u => u.cell? ⟨b, 0, none⟩ = some (.bool R.up) ∧ u.cell? ⟨b, 4, none⟩ = some (.int .i64 R.waits) ∧ u.cell? ⟨b, 5, none⟩ = some (.slice asf R.safe.length csf) ∧ u.cell? ⟨b, 36, none⟩ = some (.slice aod 3 cod))
      (first | (refine HC.out _ ?_; (repeat (first | with_reducible exact Below.refl _ _ | with_reducible refine Below.drew ?_ | with_reducible refine Below.alloc ?_ (by first | exact Nat.le_refl _ | simp) _ | with_reducible refine Below.setCell ?_ (by first | exact Nat.le_refl _ | simp) _))) | fail)
      (fail)
    all_goals (go_wp2_with fail; go_meet; exact OuB.new _ _ _ _ _)
  case rest =>
    obtain ⟨hp, hP, hbP⟩ := hcut; subst hp; obtain ⟨W2, rfl⟩ : ∃ W, W = wc := ⟨_, rfl⟩; have HP := hid hP; have HBP := hid hbP; have hRg := jgn (HX.out.next (HB1.out.trans (hbP.mono HB1.out.size))); unfold conC at hRg; simp only [List.cons_append, List.nil_append, el0, et0, ed0, el1, et1, ed1, el2, et2, ed2] at hRg; have HRg := hid hRg; have HEL := hid (And.intro el0 (And.intro el1 el2)); clear hRg hP hbP x0 x4 x5 x36 HC el0 et0 ed0 el1 et1 ed1 el2 et2 ed2 hs; go_upto_region 2 with fail
    refine wp_region_lit ?_; refine wpList_plain rfl (fun K hK => ?_)
    go_simp
    refine hK _ _ ?_; clear hK K; refine wpList_plain rfl (fun K hK => ?_)
    go_simp
    refine hK _ _ ?_; clear hK K; refine wpList_plain rfl (fun K hK => ?_)
    go_simp
    refine hK _ _ ?_; clear hK K; refine wpList_load_mid rfl 88 _ rfl b 7 rfl _ _ HRg.out Tryz.underlying88 rfl jmN ?_; simp only [Act.put, List.setIfInBounds_toArray, List.set_cons_zero, List.set_cons_succ]; go_wp2
    go_loopw [29] (fun i wr => ∃ (k : Nat) (a9 : Option Addr) (c9 : Nat), ((k = 0 ∧ i = .int .i64 0) ∨ (k = 1 ∧ i = .int .i64 1) ∨ (k = 2 ∧ i = .int .i64 2) ∨ (k = 3 ∧ i = .int .i64 3)) ∧ Hid (wr.heap[W1.heap.size]? = some (.cells #[.bool R.up, .slice a9 k c9, .slice aod 3 cod, .slice asf R.safe.length csf, .int .i64 R.waits] 37)) ∧ Hid (wr.ownsRow W2.heap.size 25 1 (.slice a9 k c9) k ([Value.slice al0 R.c0.told.length cl0, .slice al1 R.c1.told.length cl1, .slice al2 R.c2.told.length cl2].take k)) ∧ Hid (Below W1.heap.size W1 wr) ∧ W2.heap.size ≤ wr.heap.size) (fun i _ => 3 - (intOf i).toNat)
    case atStart => exact ⟨0, none, 0, .inl ⟨rfl, rfl⟩, HP, hid (World.ownsRow_nil _ _ _ _), HBP, Nat.le_refl _⟩
    case round =>
      obtain ⟨k, a9, c9, hk, HPk, HOk, HBk, hwz⟩ := hrel; have hPk := HPk.out; obtain ⟨p0, p1, p2, p3, p4⟩ := bx5 hPk; clear hPk; obtain ⟨ix0, ix1, ix2⟩ := jmd (.int .i64 R.c0.ses.step) (.string (S R.c0.ses.frm.1)) (.string (S R.c0.ses.frm.2)) (.slice at0 R.c0.ses.to.length ct0) (.string (S R.c0.ses.text)) (.bool R.c0.ses.large) (.string (S R.c0.held)) (.slice ad0 R.c0.due.length cd0) (.slice al0 R.c0.told.length cl0) (.int .i64 R.c1.ses.step) (.string (S R.c1.ses.frm.1)) (.string (S R.c1.ses.frm.2)) (.slice at1 R.c1.ses.to.length ct1) (.string (S R.c1.ses.text)) (.bool R.c1.ses.large) (.string (S R.c1.held)) (.slice ad1 R.c1.due.length cd1) (.slice al1 R.c1.told.length cl1) (.int .i64 R.c2.ses.step) (.string (S R.c2.ses.frm.1)) (.string (S R.c2.ses.frm.2)) (.slice at2 R.c2.ses.to.length ct2) (.string (S R.c2.ses.text)) (.bool R.c2.ses.large) (.string (S R.c2.held)) (.slice ad2 R.c2.due.length cd2) (.slice al2 R.c2.told.length cl2); have hPW : W1.heap.size < W2.heap.size := (Array.getElem?_eq_some_iff.1 HP.out).1; have hPr : W1.heap.size < wr.heap.size := (Array.getElem?_eq_some_iff.1 HPk.out).1; obtain ⟨rfl, rfl⟩ | ⟨rfl, rfl⟩ | ⟨rfl, rfl⟩ | ⟨rfl, rfl⟩ := hk
      · obtain ⟨W3, hW3⟩ : ∃ W3, W3 = wr.alloc (.cells #[.int .i64 R.c0.ses.step, .string (S R.c0.ses.frm.1), .string (S R.c0.ses.frm.2), .slice at0 R.c0.ses.to.length ct0, .string (S R.c0.ses.text), .bool R.c0.ses.large, .string (S R.c0.held), .slice ad0 R.c0.due.length cd0, .slice al0 R.c0.told.length cl0] 87) := ⟨_, rfl⟩; have hb3 : Below wr.heap.size wr W3 := by rw [hW3]; exact (Below.refl _ _).alloc (Nat.le_refl _) _
        have hx3 : W3.heap[wr.heap.size]? = some (.cells #[.int .i64 R.c0.ses.step, .string (S R.c0.ses.frm.1), .string (S R.c0.ses.frm.2), .slice at0 R.c0.ses.to.length ct0, .string (S R.c0.ses.text), .bool R.c0.ses.large, .string (S R.c0.held), .slice ad0 R.c0.due.length cd0, .slice al0 R.c0.told.length cl0] 87) := by rw [hW3]; exact heap_alloc_new wr _
        have x8 : W3.cell? ⟨wr.heap.size, 8, none⟩ = some (Value.slice al0 R.c0.told.length cl0) := by simp [World.cell?, hx3]
        have p1 := ja p1 hb3; have HWE3 := hid hW3; have HB3 := hid hb3; have HO3 := hid (zh HOk.out hb3); have hl3 := hb3.size; have HP3 := hid ((hb3.block W1.heap.size hPr).trans HPk.out); clear hW3 hb3 hx3; go_upto_region 5 with fail
        rw [← HWE3.out]; clear ix0 ix1 ix2
        go_wp2_with (first
          | (at_builtin; refine wpList_append_lies _ rfl _ _ 33 rfl W2.heap.size 25 i0 _ 1 24 Tryz.underlying33 hi0 hz0 hz1 hz2 rfl (by decide) (.slice a9 0 c9) 0 ([Value.slice al0 R.c0.told.length cl0, Value.slice al1 R.c1.told.length cl1, Value.slice al2 R.c2.told.length cl2].take 0) rfl (World.ownsRow.alloc HO3.out _) ⟨W3.heap.size, 0, none⟩ 1 1 [Value.slice al0 R.c0.told.length cl0] rfl rfl (zI W3 [Value.slice al0 R.c0.told.length cl0] _) (by simp [Value.oneCell']) (by decide) (by unfold maxLen; decide) (by decide) ?c4 _ rfl ?_)
          | fail)
        case c4 => simp; omega
        intro gm cap w4 hown hgrow hat hlt4; have hne : some W1.heap.size ≠ (Value.slice a9 0 c9).ownBlock := fun e => by have := (World.ownsRow.lt HOk.out _ e.symm).1; omega
        have hP4 : w4.heap[W1.heap.size]? = some (.cells #[.bool R.up, .slice a9 0 c9, .slice aod 3 cod, .slice asf R.safe.length csf, .int .i64 R.waits] 37) := (hgrow.block W1.heap.size (by simp; omega) hne).trans ((((Below.refl _ W3).alloc (Nat.le_refl _) _).block W1.heap.size (by omega)).trans HP3.out); have y1 : w4.cell? ⟨W1.heap.size, 1, none⟩ = some (.slice a9 0 c9) := by simp [World.cell?, hP4]
        have yf : w4.frozen? ⟨W1.heap.size, 1, none⟩ = false := by simp [World.frozen?, hP4]
        have hgm : W2.heap.size ≤ gm := by
          rcases hat with e | e
          · exact (World.ownsRow.lt HOk.out gm e).1
          · have e' : gm = W3.heap.size + 1 := by simpa using e
            omega
        obtain ⟨W5, hW5⟩ : ∃ W5, W5 = w4.setCell ⟨W1.heap.size, 1, none⟩ (.slice (some ⟨gm, 0, none⟩) (0 + 1) cap) := ⟨_, rfl⟩; have HB4 := hid (show Below W1.heap.size W1 W5 by
          rw [hW5]; exact ((((HBk.out.trans (HB3.out.mono HBk.out.size)).alloc (show W1.heap.size ≤ W3.heap.size by omega) _).grown hgrow (Nat.le_trans (show W1.heap.size ≤ W3.heap.size by omega) (by simp)) (fun j hj => by have := (World.ownsRow.lt HOk.out j hj).1; omega))).setCell (Nat.le_refl _) _)
        have HP5 := hid (show W5.heap[W1.heap.size]? = some (.cells #[.bool R.up, .slice (some ⟨gm, 0, none⟩) (0 + 1) cap, .slice aod 3 cod, .slice asf R.safe.length csf, .int .i64 R.waits] 37) by
          rw [hW5]; have h := heap_setCell_same w4 W1.heap.size 1 _ _ (.slice (some ⟨gm, 0, none⟩) (0 + 1) cap) hP4
          simpa using h)
        have HO5 := hid (show W5.ownsRow W2.heap.size 25 1 (.slice (some ⟨gm, 0, none⟩) (0 + 1) cap) (0 + 1) ([Value.slice al0 R.c0.told.length cl0, Value.slice al1 R.c1.told.length cl1, Value.slice al2 R.c2.told.length cl2].take (0 + 1)) by
          rw [hW5]; exact jN hown fun g hg => Below.heap_setCell _ _ _ _ (show g ≠ W1.heap.size from fun e => by have : gm = g := Option.some.inj hg; omega))
        have hwz5 : W2.heap.size ≤ W5.heap.size := by
          rw [hW5]; have h := hgrow.size
          simp [World.setCell] at h ⊢
          omega
        have HW5 := hid hW5; clear hown hgrow hat hlt4 hne hP4 hW5; go_wp2; rw [← HW5.out]
        go_roundw
        case rel => exact ⟨0 + 1, _, cap, .inr (.inl ⟨rfl, rfl⟩), HP5, HO5, HB4, hwz5⟩
        case measure => simp [intOf]
      · obtain ⟨W3, hW3⟩ : ∃ W3, W3 = wr.alloc (.cells #[.int .i64 R.c1.ses.step, .string (S R.c1.ses.frm.1), .string (S R.c1.ses.frm.2), .slice at1 R.c1.ses.to.length ct1, .string (S R.c1.ses.text), .bool R.c1.ses.large, .string (S R.c1.held), .slice ad1 R.c1.due.length cd1, .slice al1 R.c1.told.length cl1] 87) := ⟨_, rfl⟩; have hb3 : Below wr.heap.size wr W3 := by rw [hW3]; exact (Below.refl _ _).alloc (Nat.le_refl _) _
        have hx3 : W3.heap[wr.heap.size]? = some (.cells #[.int .i64 R.c1.ses.step, .string (S R.c1.ses.frm.1), .string (S R.c1.ses.frm.2), .slice at1 R.c1.ses.to.length ct1, .string (S R.c1.ses.text), .bool R.c1.ses.large, .string (S R.c1.held), .slice ad1 R.c1.due.length cd1, .slice al1 R.c1.told.length cl1] 87) := by rw [hW3]; exact heap_alloc_new wr _
        have x8 : W3.cell? ⟨wr.heap.size, 8, none⟩ = some (Value.slice al1 R.c1.told.length cl1) := by simp [World.cell?, hx3]
        have p1 := ja p1 hb3; have HWE3 := hid hW3; have HB3 := hid hb3; have HO3 := hid (zh HOk.out hb3); have hl3 := hb3.size; have HP3 := hid ((hb3.block W1.heap.size hPr).trans HPk.out); clear hW3 hb3 hx3; go_upto_region 5 with fail
        rw [← HWE3.out]; clear ix0 ix1 ix2
        go_wp2_with (first
          | (at_builtin; refine wpList_append_lies _ rfl _ _ 33 rfl W2.heap.size 25 i0 _ 1 24 Tryz.underlying33 hi0 hz0 hz1 hz2 rfl (by decide) (.slice a9 1 c9) 1 ([Value.slice al0 R.c0.told.length cl0, Value.slice al1 R.c1.told.length cl1, Value.slice al2 R.c2.told.length cl2].take 1) rfl (World.ownsRow.alloc HO3.out _) ⟨W3.heap.size, 0, none⟩ 1 1 [Value.slice al1 R.c1.told.length cl1] rfl rfl (zI W3 [Value.slice al1 R.c1.told.length cl1] _) (by simp [Value.oneCell']) (by decide) (by unfold maxLen; decide) (by decide) ?c4 _ rfl ?_)
          | fail)
        case c4 => simp; omega
        intro gm cap w4 hown hgrow hat hlt4; have hne : some W1.heap.size ≠ (Value.slice a9 1 c9).ownBlock := fun e => by have := (World.ownsRow.lt HOk.out _ e.symm).1; omega
        have hP4 : w4.heap[W1.heap.size]? = some (.cells #[.bool R.up, .slice a9 1 c9, .slice aod 3 cod, .slice asf R.safe.length csf, .int .i64 R.waits] 37) := (hgrow.block W1.heap.size (by simp; omega) hne).trans ((((Below.refl _ W3).alloc (Nat.le_refl _) _).block W1.heap.size (by omega)).trans HP3.out); have y1 : w4.cell? ⟨W1.heap.size, 1, none⟩ = some (.slice a9 1 c9) := by simp [World.cell?, hP4]
        have yf : w4.frozen? ⟨W1.heap.size, 1, none⟩ = false := by simp [World.frozen?, hP4]
        have hgm : W2.heap.size ≤ gm := by
          rcases hat with e | e
          · exact (World.ownsRow.lt HOk.out gm e).1
          · have e' : gm = W3.heap.size + 1 := by simpa using e
            omega
        obtain ⟨W5, hW5⟩ : ∃ W5, W5 = w4.setCell ⟨W1.heap.size, 1, none⟩ (.slice (some ⟨gm, 0, none⟩) (1 + 1) cap) := ⟨_, rfl⟩; have HB4 := hid (show Below W1.heap.size W1 W5 by
          rw [hW5]; exact ((((HBk.out.trans (HB3.out.mono HBk.out.size)).alloc (show W1.heap.size ≤ W3.heap.size by omega) _).grown hgrow (Nat.le_trans (show W1.heap.size ≤ W3.heap.size by omega) (by simp)) (fun j hj => by have := (World.ownsRow.lt HOk.out j hj).1; omega))).setCell (Nat.le_refl _) _)
        have HP5 := hid (show W5.heap[W1.heap.size]? = some (.cells #[.bool R.up, .slice (some ⟨gm, 0, none⟩) (1 + 1) cap, .slice aod 3 cod, .slice asf R.safe.length csf, .int .i64 R.waits] 37) by
          rw [hW5]; have h := heap_setCell_same w4 W1.heap.size 1 _ _ (.slice (some ⟨gm, 0, none⟩) (1 + 1) cap) hP4
          simpa using h)
        have HO5 := hid (show W5.ownsRow W2.heap.size 25 1 (.slice (some ⟨gm, 0, none⟩) (1 + 1) cap) (1 + 1) ([Value.slice al0 R.c0.told.length cl0, Value.slice al1 R.c1.told.length cl1, Value.slice al2 R.c2.told.length cl2].take (1 + 1)) by
          rw [hW5]; exact jN hown fun g hg => Below.heap_setCell _ _ _ _ (show g ≠ W1.heap.size from fun e => by have : gm = g := Option.some.inj hg; omega))
        have hwz5 : W2.heap.size ≤ W5.heap.size := by
          rw [hW5]; have h := hgrow.size
          simp [World.setCell] at h ⊢
          omega
        have HW5 := hid hW5; clear hown hgrow hat hlt4 hne hP4 hW5; go_wp2; rw [← HW5.out]
        go_roundw
        case rel => exact ⟨1 + 1, _, cap, .inr (.inr (.inl ⟨rfl, rfl⟩)), HP5, HO5, HB4, hwz5⟩
        case measure => simp [intOf]
      · obtain ⟨W3, hW3⟩ : ∃ W3, W3 = wr.alloc (.cells #[.int .i64 R.c2.ses.step, .string (S R.c2.ses.frm.1), .string (S R.c2.ses.frm.2), .slice at2 R.c2.ses.to.length ct2, .string (S R.c2.ses.text), .bool R.c2.ses.large, .string (S R.c2.held), .slice ad2 R.c2.due.length cd2, .slice al2 R.c2.told.length cl2] 87) := ⟨_, rfl⟩; have hb3 : Below wr.heap.size wr W3 := by rw [hW3]; exact (Below.refl _ _).alloc (Nat.le_refl _) _
        have hx3 : W3.heap[wr.heap.size]? = some (.cells #[.int .i64 R.c2.ses.step, .string (S R.c2.ses.frm.1), .string (S R.c2.ses.frm.2), .slice at2 R.c2.ses.to.length ct2, .string (S R.c2.ses.text), .bool R.c2.ses.large, .string (S R.c2.held), .slice ad2 R.c2.due.length cd2, .slice al2 R.c2.told.length cl2] 87) := by rw [hW3]; exact heap_alloc_new wr _
        have x8 : W3.cell? ⟨wr.heap.size, 8, none⟩ = some (Value.slice al2 R.c2.told.length cl2) := by simp [World.cell?, hx3]
        have p1 := ja p1 hb3; have HWE3 := hid hW3; have HB3 := hid hb3; have HO3 := hid (zh HOk.out hb3); have hl3 := hb3.size; have HP3 := hid ((hb3.block W1.heap.size hPr).trans HPk.out); clear hW3 hb3 hx3; go_upto_region 5 with fail
        rw [← HWE3.out]; clear ix0 ix1 ix2
        go_wp2_with (first
          | (at_builtin; refine wpList_append_lies _ rfl _ _ 33 rfl W2.heap.size 25 i0 _ 1 24 Tryz.underlying33 hi0 hz0 hz1 hz2 rfl (by decide) (.slice a9 2 c9) 2 ([Value.slice al0 R.c0.told.length cl0, Value.slice al1 R.c1.told.length cl1, Value.slice al2 R.c2.told.length cl2].take 2) rfl (World.ownsRow.alloc HO3.out _) ⟨W3.heap.size, 0, none⟩ 1 1 [Value.slice al2 R.c2.told.length cl2] rfl rfl (zI W3 [Value.slice al2 R.c2.told.length cl2] _) (by simp [Value.oneCell']) (by decide) (by unfold maxLen; decide) (by decide) ?c4 _ rfl ?_)
          | fail)
        case c4 => simp; omega
        intro gm cap w4 hown hgrow hat hlt4; have hne : some W1.heap.size ≠ (Value.slice a9 2 c9).ownBlock := fun e => by have := (World.ownsRow.lt HOk.out _ e.symm).1; omega
        have hP4 : w4.heap[W1.heap.size]? = some (.cells #[.bool R.up, .slice a9 2 c9, .slice aod 3 cod, .slice asf R.safe.length csf, .int .i64 R.waits] 37) := (hgrow.block W1.heap.size (by simp; omega) hne).trans ((((Below.refl _ W3).alloc (Nat.le_refl _) _).block W1.heap.size (by omega)).trans HP3.out); have y1 : w4.cell? ⟨W1.heap.size, 1, none⟩ = some (.slice a9 2 c9) := by simp [World.cell?, hP4]
        have yf : w4.frozen? ⟨W1.heap.size, 1, none⟩ = false := by simp [World.frozen?, hP4]
        have hgm : W2.heap.size ≤ gm := by
          rcases hat with e | e
          · exact (World.ownsRow.lt HOk.out gm e).1
          · have e' : gm = W3.heap.size + 1 := by simpa using e
            omega
        obtain ⟨W5, hW5⟩ : ∃ W5, W5 = w4.setCell ⟨W1.heap.size, 1, none⟩ (.slice (some ⟨gm, 0, none⟩) (2 + 1) cap) := ⟨_, rfl⟩; have HB4 := hid (show Below W1.heap.size W1 W5 by
          rw [hW5]; exact ((((HBk.out.trans (HB3.out.mono HBk.out.size)).alloc (show W1.heap.size ≤ W3.heap.size by omega) _).grown hgrow (Nat.le_trans (show W1.heap.size ≤ W3.heap.size by omega) (by simp)) (fun j hj => by have := (World.ownsRow.lt HOk.out j hj).1; omega))).setCell (Nat.le_refl _) _)
        have HP5 := hid (show W5.heap[W1.heap.size]? = some (.cells #[.bool R.up, .slice (some ⟨gm, 0, none⟩) (2 + 1) cap, .slice aod 3 cod, .slice asf R.safe.length csf, .int .i64 R.waits] 37) by
          rw [hW5]; have h := heap_setCell_same w4 W1.heap.size 1 _ _ (.slice (some ⟨gm, 0, none⟩) (2 + 1) cap) hP4
          simpa using h)
        have HO5 := hid (show W5.ownsRow W2.heap.size 25 1 (.slice (some ⟨gm, 0, none⟩) (2 + 1) cap) (2 + 1) ([Value.slice al0 R.c0.told.length cl0, Value.slice al1 R.c1.told.length cl1, Value.slice al2 R.c2.told.length cl2].take (2 + 1)) by
          rw [hW5]; exact jN hown fun g hg => Below.heap_setCell _ _ _ _ (show g ≠ W1.heap.size from fun e => by have : gm = g := Option.some.inj hg; omega))
        have hwz5 : W2.heap.size ≤ W5.heap.size := by
          rw [hW5]; have h := hgrow.size
          simp [World.setCell] at h ⊢
          omega
        have HW5 := hid hW5; clear hown hgrow hat hlt4 hne hP4 hW5; go_wp2; rw [← HW5.out]
        go_roundw
        case rel => exact ⟨2 + 1, _, cap, .inr (.inr (.inr ⟨rfl, rfl⟩)), HP5, HO5, HB4, hwz5⟩
        case measure => simp [intOf]
      · have hr : wr.heap[w.heap.size]? = some (.cells #[.bool false, .slice none 0 0, .slice none 0 0, .slice none 0 0, .int .i64 0] 37) := by
          have h := HBk.out.block w.heap.size (by rw [HWE.out]; simp); rw [h, HWE.out]; exact heap_alloc_new w _
        obtain ⟨r0, r1, r2, r3, r4⟩ := bx5 hr; have zf : ∀ o, wr.frozen? ⟨w.heap.size, o, none⟩ = false := fun o => by simp [World.frozen?, hr]
        have HR := hid hr; clear hr; have HBK := hid (show w.heap.size < W1.heap.size by rw [HWE.out]; simp); have HEND := hid (show ∀ w', Below w.heap.size w w' → (∀ g, w.heap.size < g → w'.heap[g]? = wr.heap[g]?) → OutM B w' R (.slice a9 3 c9) (.slice aod R.orders.length cod) (.slice asf R.safe.length csf) from fun w' hb hg => jmR HM.out HQ.out hb (by
          obtain ⟨e0, e1, e2⟩ := HEL.out; rw [e0, e1, e2]; exact jao (f := fun x => x) (jN HOk.out fun g h => hg g (by have := (World.ownsRow.lt HOk.out g h).1; have := HBK.out; omega)) (show 3 ≤ maxLen by unfold maxLen; decide) fun g h => (by have := (World.ownsRow.lt HOk.out g h).1; have := HBK.out; have := HM.out.lt; omega)) (by rw [HQ.out.os.2]; exact hodv) hsf)
        go_wp2; have m := put5 (w := wr) (b := w.heap.size) (.bool R.up) (.slice a9 3 c9) (.slice aod 3 cod) (.slice asf R.safe.length csf) (.int .i64 R.waits) HR.out; obtain ⟨W6, hW6⟩ : ∃ W6, W6 = (((((wr.setCell ⟨w.heap.size, 0, none⟩ (.bool R.up)).setCell ⟨w.heap.size, 1, none⟩ (.slice a9 3 c9)).setCell ⟨w.heap.size, 2, none⟩ (.slice aod 3 cod)).setCell ⟨w.heap.size, 3, none⟩ (.slice asf R.safe.length csf)).setCell ⟨w.heap.size, 4, none⟩ (.int .i64 R.waits)) := ⟨_, rfl⟩; rw [← hW6] at m ⊢; obtain ⟨m0, m1, m2, m3, m4⟩ := bx5 m; refine bodyPost_ret (v := .agg #[.bool R.up, .slice a9 3 c9, .slice aod 3 cod, .slice asf R.safe.length csf, .int .i64 R.waits]) (by simp only [results, Tryz.results20]; simp [go_sem, m0, m1, m2, m3, m4]) rfl ?_; have ho3 := HQ.out.os.2; have hB6 : Below w.heap.size w W6 := by
          rw [hW6]; exact (((((HB1.out.trans (HBk.out.mono HB1.out.size)).setCell (Nat.le_refl _) _).setCell (Nat.le_refl _) _).setCell (Nat.le_refl _) _).setCell (Nat.le_refl _) _).setCell (Nat.le_refl _) _
        refine ⟨a9, c9, aod, cod, asf, csf, by rw [ho3], HEND.out W6 hB6 fun g hg => ?_, hB6⟩; rw [hW6]; have hn : g ≠ w.heap.size := by omega
        exact (Below.heap_setCell _ _ _ _ hn).trans ((Below.heap_setCell _ _ _ _ hn).trans ((Below.heap_setCell _ _ _ _ hn).trans ((Below.heap_setCell _ _ _ _ hn).trans (Below.heap_setCell _ _ _ _ hn))))
end Go.Proofs.YtlfgemnmfhknfaaGreatDoor
namespace Go.Proofs.YtlfgemnmfhknfaaGreatDoor
open Go.RowKit Go.Proofs
def inbS : Stt := ⟨[⟨[73, 78, 66, 79, 88], 1, []⟩], []⟩
def con0 : Con := ⟨atS 0, [], [], []⟩
def rom0 : Rom := ⟨true, [], 0, 0, 0, [inbS, inbS, inbS], [inbS, inbS, inbS], con0, con0, con0, [[], [], []], []⟩
theorem jhv {w : World} {g g' : Nat} {c c' : Array Value} {t t' : TypeId} {f f' : Nat × Nat} (h : w.heap[g]? = some (.cells c t f)) (h' : w.heap[g']? = some (.cells c' t' f')) (hne : t ≠ t') : g ≠ g' := fun e => by
  subst e; rw [h] at h'; cases h'; exact hne rfl
theorem qD {w : World} {B n k g : Nat} {e : TypeId} {v : Value} {xs : List Value} (h : w.ownsRow B e k v n xs) (hg : v.ownBlock = some g) : ∃ cur, w.heap[g]? = some (.cells cur e (0, 0)) := by
  rcases h.2 with ⟨rfl, _⟩ | ⟨g', cap, cur, rfl, _, h', _⟩
  · cases hg
  · cases hg; exact ⟨cur, h'⟩
theorem jkc {A : Type} {Q : Nat → Prop} {P : A → List Value → Prop} {w : World} {v : Value} {vs : List Value} {ls : List A} (h : RowM Q 1 (fun x cs => cs = [x]) w v vs) (hl : vs.length = ls.length) (hx : ∀ (i : Nat) x l, vs[i]? = some x → ls[i]? = some l → P l [x]) : RowM Q 1 P w v ls := by
  obtain ⟨a, c, hv, hm, hr⟩ := h; refine ⟨a, c, by rw [← hl]; exact hv, by rw [← hl]; exact hm, fun i l hi => ?_⟩; have hi' : i < vs.length := by rw [hl]; exact (List.getElem?_eq_some_iff.1 hi).1
  obtain ⟨b, o, cs, h1, h2, h3, h4, h5, h6⟩ := hr i vs[i] (List.getElem?_eq_getElem hi'); exact ⟨b, o, cs, h1, h2, h3, h4, h5, by rw [h6]; exact hx i _ l (List.getElem?_eq_getElem hi') hi⟩
theorem ji0 {w : World} {Q : Nat → Prop} {b : Nat} (h : w.heap[b]? = some (.cells #[.string ⟨#[73, 78, 66, 79, 88]⟩, .int .i64 1, .slice none 0 0] 73)) (hQ : Q b) : SttM Q w (.slice (some ⟨b, 0, none⟩) 1 1) (.slice none 0 0) inbS := by
  refine ⟨⟨some ⟨b, 0, none⟩, 1, rfl, by unfold maxLen; decide, fun i x hx => ?_⟩, jh _ _ _ _ _ _, fun a n c e => by cases e; exact Nat.le_refl _⟩
  match i, hx with
  | 0, hx =>
    cases hx; refine ⟨b, 0, boxC ⟨[73, 78, 66, 79, 88], 1, []⟩ (.slice none 0 0), rfl, (Array.getElem?_eq_some_iff.1 h).1, hQ, rfl, fun j u hj => ?_, _, rfl, jh _ _ _ _ _ _⟩; have hl : j < 3 := (List.getElem?_eq_some_iff.1 hj).1; simp only [World.cell?, h]
    match j, hl, hj with
    | 0, _, hj => cases hj; rfl
    | 1, _, hj => cases hj; rfl
    | 2, _, hj => cases hj; rfl
  | n + 1, hx => simp [inbS] at hx
theorem jeK (bs : List Nat) : inbC bs = (bs.map fun b => [Value.slice (some ⟨b, 0, none⟩) 1 1, .slice none 0 0]).flatten := by
  simp [inbC, List.flatMap_def]
theorem RoomM.of_open {W W1 w' : World} {b : Nat} {v5 v6 v36 : Value} {L : List (List UInt8)} {Cs : List (List Cmd)} (h1 : RmB W1 b (jee v5 v6 (.slice none 0 0) (.slice none 0 0) v36)) (hb : W.heap.size ≤ b) (hL : LdN W1 W.heap.size v5 v6) (hO : OwO W1 W.heap.size v36) (hI : RoI W1 W.heap.size b v5 v6 v36 L Cs w') (hW : W.heap.size ≤ W1.heap.size) (hLl : L.length ≤ 10) (hCl : Cs.length ≤ 10) :
    ∃ G, RoomM L Cs W.heap.size b G rom0 w' := by
  obtain ⟨bs, hbl, hin, h5, h6, hap⟩ := hL; obtain ⟨v34, v35, X, hX, hM, hS, hT⟩ := hI; have keep : ∀ k o, W1.heap[k]? = some o → k ≠ b → w'.heap[k]? = some o := fun k o hk hn => (hT.block k (Array.getElem?_eq_some_iff.1 hk).1 ⟨hn, by simp⟩).trans hk
  have far5 : ∀ g, v5.ownBlock = some g → g ≠ b := fun g hg => by obtain ⟨c, h⟩ := qD h5 hg; exact jhv h h1.1 (by decide)
  have far6 : ∀ g, v6.ownBlock = some g → g ≠ b := fun g hg => by obtain ⟨c, h⟩ := qD h6 hg; exact jhv h h1.1 (by decide)
  have farO : ∀ g, v36.ownBlock = some g → g ≠ b := fun g hg => by obtain ⟨c, h⟩ := qD hO hg; exact jhv h h1.1 (by decide)
  have k5 : w'.ownsRow W.heap.size 55 2 v5 3 (inbC bs) := jN h5 fun g hg => by obtain ⟨c, h⟩ := qD h5 hg; rw [keep g _ h (far5 g hg), h]
  have k6 : w'.ownsRow W.heap.size 55 2 v6 3 (inbC bs) := jN h6 fun g hg => by obtain ⟨c, h⟩ := qD h6 hg; rw [keep g _ h (far6 g hg), h]
  have kO : w'.ownsRow W.heap.size 143 1 v36 3 [.slice none 0 0, .slice none 0 0, .slice none 0 0] := jN hO fun g hg => by obtain ⟨c, h⟩ := qD hO hg; rw [keep g _ h (farO g hg), h]
  have hbx : ∀ q ∈ bs, q ≠ b ∧ w'.heap[q]? = some (.cells #[.string ⟨#[73, 78, 66, 79, 88]⟩, .int .i64 1, .slice none 0 0] 73) := fun q hq => by
    have hn : q ≠ b := jhv (hin q hq).2 h1.1 (by decide); exact ⟨hn, keep q _ (hin q hq).2 hn⟩
  obtain ⟨V, hV⟩ : ∃ V : Vals, V = ⟨.slice none 0 0, v5, v6, v34, v35, v36, .slice none 0 0, ⟨.slice none 0 0, .slice none 0 0, .slice none 0 0⟩, ⟨.slice none 0 0, .slice none 0 0, .slice none 0 0⟩, ⟨.slice none 0 0, .slice none 0 0, .slice none 0 0⟩, [.slice none 0 0, .slice none 0 0, .slice none 0 0], bs.map fun b => (.slice (some ⟨b, 0, none⟩) 1 1, .slice none 0 0)⟩ := ⟨_, rfl⟩; have hG : mB (za rom0 V) = v6.ownBlock.toList ++ v36.ownBlock.toList := by
    subst hV; simp only [za, jbR, ja7, rom0, con0, intR, sttR, ordR]
    simp [mB, Value.ownBlock, List.range, List.range.loop]
  have inG : ∀ g, g ∈ mB (za rom0 V) → v6.ownBlock = some g ∨ v36.ownBlock = some g := fun g hg => by rw [hG] at hg; simpa using hg
  have ty6 : ∀ g, g ∈ mB (za rom0 V) → ∃ c t, w'.heap[g]? = some (.cells c t (0, 0)) ∧ (t = 55 ∨ t = 143) ∧ g < W1.heap.size := fun g hg => by
    rcases inG g hg with h | h
    · obtain ⟨c, hc⟩ := qD k6 h; exact ⟨c, _, hc, .inl rfl, (World.ownsRow.lt h6 g h).2⟩
    · obtain ⟨c, hc⟩ := qD kO h; exact ⟨c, _, hc, .inr rfl, (World.ownsRow.lt hO g h).2⟩
  have avT : ∀ {g : Nat} {c : Array Value} {t : TypeId} {f : Nat × Nat}, w'.heap[g]? = some (.cells c t f) → g ≠ b → t ≠ 55 → t ≠ 143 → Av b (mB (za rom0 V)) g := fun {g c t f} hg hn h1 h2 => ⟨hn, fun e => by
    obtain ⟨c', t', h', ht, _⟩ := ty6 g e; rw [hg] at h'; cases h'
    rcases ht with h | h
    · exact h1 h
    · exact h2 h⟩
  have avN : ∀ k, AvN W1.heap.size b (mB [locR v34 L, scrR v35 X]) k → AvN W.heap.size b (mB (za rom0 V)) k := fun k hk => ⟨Nat.le_trans hW hk.1, hk.2.1, fun e => by
    obtain ⟨_, _, _, _, h⟩ := ty6 k e; have := hk.1; omega⟩
  refine ⟨mB (za rom0 V), V, rfl, hb, ?_, ⟨?_, ?_, ?_, hM.lt⟩, ?_⟩
  · subst hV; exact hX
  · subst hV; intro r hr; simp only [za, rom0, con0, List.range, List.range.loop, List.map_cons, List.map_nil, List.cons_append, List.nil_append, List.mem_cons, List.not_mem_nil, or_false] at hr
    rcases hr with rfl | rfl | rfl | rfl | rfl | rfl | rfl | rfl | rfl
    · exact World.ownsRow_nil _ _ _ _
    · exact World.ownsRow_nil _ _ _ _
    · exact World.ownsRow_nil _ _ _ _
    · exact World.ownsRow_nil _ _ _ _
    · have := k6; rw [jeK] at this
      simpa [sttR, hbl, Function.comp_def] using this
    · exact kO
    · exact World.ownsRow_nil _ _ _ _
    · exact World.ownsRow_nil _ _ _ _
    · exact World.ownsRow_nil _ _ _ _
  · rw [hG]; refine List.nodup_append.2 ⟨by cases v6.ownBlock <;> simp, by cases v36.ownBlock <;> simp, fun g h g' h' e => ?_⟩; subst e; obtain ⟨c, hc⟩ := qD k6 (by simpa using h); obtain ⟨c', hc'⟩ := qD kO (by simpa using h'); exact jhv hc hc' (by decide) rfl
  · intro e
    rcases inG b e with h | h
    · exact far6 b h rfl
    · exact farO b h rfl
  · have hc0 : ConM (AvN W.heap.size b (mB (za rom0 V))) w' con0 ⟨.slice none 0 0, .slice none 0 0, .slice none 0 0⟩ := ⟨jh _ _ _ _ _ _, fun a n c e => by cases e; exact Nat.le_refl _, jh _ _ _ _ _ _⟩; have hlo : TxtsM (AvN W.heap.size b (mB (za rom0 V))) w' v34 L := jao (f := fun l => .string (S l)) (hM.own (locR v34 L) (by simp)) (by unfold maxLen; omega) fun g hg => by
      obtain ⟨c, h⟩ := qD (hM.own (locR v34 L) (by simp)) hg; exact ⟨(World.ownsRow.lt (hM.own (locR v34 L) (by simp)) g hg).1, avT h (fun e => hM.far (List.mem_filterMap.2 ⟨locR v34 L, by simp, by rw [← e]; exact hg⟩)) (show (9 : TypeId) ≠ 55 by decide) (show (9 : TypeId) ≠ 143 by decide)⟩
    have hsx : RowM (AvN W.heap.size b (mB (za rom0 V))) 1 (fun x cs => cs = [x]) w' v35 X := jao (f := fun x => x) (by simpa [scrR] using hM.own (scrR v35 X) (by simp)) (by rw [hS.1]; unfold maxLen; omega) fun g hg => by
      obtain ⟨c, h⟩ := qD (hM.own (scrR v35 X) (by simp)) hg; exact ⟨(World.ownsRow.lt (hM.own (scrR v35 X) (by simp)) g hg).1, avT h (fun e => hM.far (List.mem_filterMap.2 ⟨scrR v35 X, by simp, by rw [← e]; exact hg⟩)) (show (107 : TypeId) ≠ 55 by decide) (show (107 : TypeId) ≠ 143 by decide)⟩
    have hsc : RowM (AvN W.heap.size b (mB (za rom0 V))) 1 (ScrV (AvN W.heap.size b (mB (za rom0 V))) w') w' v35 Cs := jkc hsx hS.1 fun i x C h1 h2 => by
      obtain ⟨C', a, c, e1, e2, e3, e4⟩ := hS.2 i x h1; rw [h2] at e1; cases e1; subst e2; exact ⟨a, c, rfl, e3, RowM.imp e4 avN (Keeps.refl _ _) fun _ _ hx => CmdM.imp avN (Keeps.refl _ _) _ _ _ hx⟩
    have hb1 : ∀ (i : Nat) q, bs[i]? = some q → SttM (AvN W.heap.size b (mB (za rom0 V))) w' (.slice (some ⟨q, 0, none⟩) 1 1) (.slice none 0 0) inbS := fun i q hq => by
      have h := hbx q (List.mem_of_getElem? hq); exact ji0 h.2 ⟨(hin q (List.mem_of_getElem? hq)).1, avT h.2 h.1 (by decide) (by decide)⟩
    have h3 : ∀ (i : Nat) s, [inbS, inbS, inbS][i]? = some s → s = inbS := fun i s h => by
      have := List.mem_of_getElem? h
      simpa using this
    have hsf : RowM (AvN W.heap.size b (mB (za rom0 V))) 2 (SttV (AvN W.heap.size b (mB (za rom0 V))) w') w' v5 [inbS, inbS, inbS] := jdi (css := bs.map fun b => [Value.slice (some ⟨b, 0, none⟩) 1 1, .slice none 0 0]) (by rw [← jeK]; exact k5) rfl (by unfold maxLen; decide) (by simp [hbl]) (fun cs hcs => by
        obtain ⟨q, _, rfl⟩ := List.mem_map.1 hcs; rfl) (fun i s cs hs hcs => by
        rw [List.getElem?_map] at hcs; cases hq : bs[i]? with
        | none => rw [hq] at hcs; cases hcs
        | some q =>
          rw [hq] at hcs; cases hcs; rw [h3 i s hs]; exact ⟨_, _, rfl, hb1 i q hq⟩) fun g hg => ⟨(World.ownsRow.lt k5 g hg).1, far5 g hg, fun e => by
        rcases inG g e with h | h
        · exact hap g hg h
        · obtain ⟨c, hc⟩ := qD k5 hg; obtain ⟨c', hc'⟩ := qD kO h; exact jhv hc hc' (by decide) rfl⟩
    subst hV; exact ⟨hc0, hc0, hc0, hlo, hsc, hsf, ⟨by simp [hbl, rom0], fun i s x hs hx => by
      rw [List.getElem?_map] at hx; cases hq : bs[i]? with
      | none => rw [hq] at hx; cases hx
      | some q =>
        rw [hq] at hx; cases hx; rw [h3 i s hs]; exact hb1 i q hq⟩, ⟨rfl, rfl⟩, BysM.nil _ _ _ _⟩
end Go.Proofs.YtlfgemnmfhknfaaGreatDoor
namespace Go.Proofs.YtlfgemnmfhknfaaGreatDoor
open Go.RowKit Go.Proofs
theorem AcsM.next {Q : Nat → Prop} {w w' : World} {v : Value} {l : List Acu} (h : AcsM Q w v l) (hb : Below w.heap.size w w') : AcsM Q w' v l := RowM.imp h (fun _ h => h) (Keeps.of_below hb) fun _ _ h => h
theorem AcsM.at {Q : Nat → Prop} {w : World} {a : Option Addr} {n c : Nat} {l : List Acu} (h : AcsM Q w (.slice a n c) l) {i : Nat} {x : Acu} (hx : l[i]? = some x) : ∃ b o, a = some ⟨b, o, none⟩ ∧ w.cell? ⟨b, o + i * 11, none⟩ = some (.int .i64 x.kind) ∧ w.cell? ⟨b, o + i * 11 + 1, none⟩ = some (.int .i64 x.conn) ∧ w.cell? ⟨b, o + i * 11 + 2, none⟩ = some (.int .i64 x.user) ∧ w.cell? ⟨b, o + i * 11 + 3, none⟩ = some (.int .i64 x.keep) ∧ w.cell? ⟨b, o + i * 11 + 4, none⟩ = some (.string (S x.data)) ∧
    w.cell? ⟨b, o + i * 11 + 5, none⟩ = some (.int .i64 x.ent.kind) ∧ w.cell? ⟨b, o + i * 11 + 6, none⟩ = some (.string (S x.ent.box)) ∧ w.cell? ⟨b, o + i * 11 + 7, none⟩ = some (.int .i64 x.ent.uid) ∧ w.cell? ⟨b, o + i * 11 + 8, none⟩ = some (.int .i64 x.ent.flags) ∧ w.cell? ⟨b, o + i * 11 + 9, none⟩ = some (.string (S x.ent.goal)) ∧ w.cell? ⟨b, o + i * 11 + 10, none⟩ = some (.string (S x.ent.text)) := by
  obtain ⟨a', c', hv, _, hr⟩ := h; simp only [Value.slice.injEq] at hv; obtain ⟨b, o, cs, ha, _, _, _, hc, hP⟩ := hr i x hx; have hcs : cs = acuC x := hP; subst hcs; exact ⟨b, o, by rw [hv.1, ha], hc 0 _ rfl, hc 1 _ rfl, hc 2 _ rfl, hc 3 _ rfl, hc 4 _ rfl, hc 5 _ rfl, hc 6 _ rfl, hc 7 _ rfl, hc 8 _ rfl, hc 9 _ rfl, hc 10 _ rfl⟩
set_option maxHeartbeats 2000000 in
set_option maxRecDepth 100000 in
theorem jeU (Q : Nat → Prop) (a : Option Addr) (c : Nat) (l : List Acu) (w : World) (hM : AcsM Q w (.slice a l.length c) l) (hl : l.length ≤ 10000)
    (hC : ∀ x ∈ l, ∀ u, Calls Tryz.prog 27 #[.agg (acuC x).toArray] u fun e u' => e = .returned (.int .i64 0) ∧ Below u.heap.size u u') :
    Calls Tryz.prog 18 #[.slice a l.length c] w fun e w' => e = .returned (.int .i64 0) ∧ Below w.heap.size w w' := by
  have HM := hid hM; have HC := hid hC; clear hM hC; go_enter Tryz.func18, Tryz.ntmps18; go_wp2
  go_loopw [11] (fun i wr => ∃ k : Nat, k ≤ l.length ∧ i = .int .i64 k ∧ Hid (Below w.heap.size w wr)) (fun i _ => l.length - (intOf i).toNat)
  case atStart => exact ⟨0, Nat.zero_le _, rfl, hid (Below.refl _ _)⟩
  case round =>
    obtain ⟨k, hk, rfl, HB⟩ := hrel
    by_cases hlt : k < l.length
    · have k1 : (k : Int) < (l.length : Int) := by omega
      have k0 : (0 : Int) ≤ (k : Int) := by omega
      have hx : l[k]? = some l[k] := List.getElem?_eq_getElem hlt; have hc := HC.out l[k] (List.getElem_mem hlt); generalize l[k] = x at hx hc; obtain ⟨b, o, rfl, x0, x1, x2, x3, x4, x5, x6, x7, x8, x9, x10⟩ := (HM.out.next HB.out).at hx; have HCX := hid hc; have hal : ∀ o, Below wr.heap.size wr (wr.alloc o) := fun o => (Below.refl _ _).alloc (Nat.le_refl _) o
      have HAL := hid hal; clear hx hc hal; unfold acuC at HCX; go_wp2_with fail; refine (HCX.out _).mono ?_; rintro e w2 ⟨rfl, hb2⟩; have HB2 := hid (HB.out.trans (((HAL.out _).trans (hb2.mono (HAL.out _).size)).mono HB.out.size)); clear hb2; go_wp2
      go_roundw
      case rel => first | exact ⟨k + 1, by omega, by go_num, HB2⟩ | ((repeat apply Exists.intro); exact ⟨⟨k + 1, by omega, by go_num, HB2⟩, rfl⟩)
      case measure => simp [intOf]; omega
    · have k1 : ¬ (k : Int) < (l.length : Int) := by omega
      go_wp2; go_ret; exact ⟨rfl, HB.out⟩
def RunP (w : World) (R : Rom) (e : Ending) (w' : World) : Prop := ∃ ac cc ao co as_ cs, e = .returned (.tuple #[.agg #[.bool R.up, .slice ac 3 cc, .slice ao R.orders.length co, .slice as_ R.safe.length cs, .int .i64 R.waits], .int .i64 0]) ∧ OutM w.heap.size w' R (.slice ac 3 cc) (.slice ao R.orders.length co) (.slice as_ R.safe.length cs) ∧ Below w.heap.size w w'
def OpO (K : List (List UInt8)) (Cs : List (List Cmd)) (v : World) (e : Ending) (v' : World) : Prop := ∃ b G, e = .returned (.tuple #[.pointer (some ⟨b, 0, none⟩), .int .i64 0]) ∧ RoomM K Cs v.heap.size b G rom0 v' ∧ Below v.heap.size v v'
theorem OutM.next {N : Nat} {w w' : World} {R : Rom} {vc vo vs : Value} (h : OutM N w R vc vo vs) (hb : ∀ g, g < w.heap.size → N ≤ g → w'.heap[g]? = w.heap[g]?) (hs : w.heap.size ≤ w'.heap.size) : OutM N w' R vc vo vs := by
  have hk : Keeps (N ≤ ·) w w' := ⟨hs, hb⟩; exact ⟨RowM.imp h.co (fun _ h => h) hk fun _ _ h => by
    obtain ⟨v, e, h⟩ := h; exact ⟨v, e, RowM.imp h (fun _ h => h) hk fun _ _ h => h⟩, RowM.imp h.od (fun _ h => h) hk fun _ _ h => by
    obtain ⟨v, e, h⟩ := h; exact ⟨v, e, RowM.imp h (fun _ h => h) hk fun _ _ h => h⟩, RowM.imp h.sf (fun _ h => h) hk fun _ _ h => by
    obtain ⟨vb, vs, e, h⟩ := h; exact ⟨vb, vs, e, h.imp (fun _ h => h) hk⟩⟩
theorem OutM.mono {N N' : Nat} {w : World} {R : Rom} {vc vo vs : Value} (hN : N' ≤ N) (h : OutM N w R vc vo vs) : OutM N' w R vc vo vs := by
  have hq : ∀ k, N ≤ k → N' ≤ k := fun k hk => Nat.le_trans hN hk
  have hk := Keeps.refl (N ≤ ·) w; exact ⟨RowM.imp h.co hq hk fun _ _ h => by
    obtain ⟨v, e, h⟩ := h; exact ⟨v, e, RowM.imp h hq hk fun _ _ h => h⟩, RowM.imp h.od hq hk fun _ _ h => by
    obtain ⟨v, e, h⟩ := h; exact ⟨v, e, RowM.imp h hq hk fun _ _ h => h⟩, RowM.imp h.sf hq hk fun _ _ h => by
    obtain ⟨vb, vs, e, h⟩ := h; exact ⟨vb, vs, e, h.imp hq hk⟩⟩
set_option maxHeartbeats 2000000 in
set_option maxRecDepth 100000 in
theorem jmm (K : List (List UInt8)) (Cs : List (List Cmd)) (us : Value) (Q : Nat → Prop) (a : Option Addr) (c : Nat) (l : List Acu) (w : World) (hM : AcsM Q w (.slice a l.length c) l) (hl : l.length ≤ 10000)
    (hC : ∀ x ∈ l, ∀ u, Calls Tryz.prog 27 #[.agg (acuC x).toArray] u fun e u' => e = .returned (.int .i64 0) ∧ Below u.heap.size u u')
    (hO : ∀ v, Below w.heap.size w v → Calls Tryz.prog 17 #[us] v (OpO K Cs v))
    (st : Nat → Rom) (h0 : st 0 = rom0)
    (hD : ∀ (k : Nat) (x : Acu), l[k]? = some x → ∀ (B b : Nat) (G : List Nat) (u : World), w.heap.size ≤ B → Below w.heap.size w u → RoomM K Cs B b G (st k) u → Calls Tryz.prog 19 #[.pointer (some ⟨b, 0, none⟩), .agg (acuC x).toArray] u (RmQ K Cs B b G u (st (k + 1)) (.tuple #[]))) :
    Calls Tryz.prog 12 #[us, .slice a l.length c] w (RunP w (st l.length)) := by
  have HM := hid hM; have HC := hid hC; have HO := hid (hO _ ((Below.refl _ w).alloc (Nat.le_refl _) (.cells #[.bool false, .slice none 0 0, .slice none 0 0, .slice none 0 0, .int .i64 0] 37))); have HD := hid hD; have HB1 := hid (show Below w.heap.size w (w.alloc (.cells #[.bool false, .slice none 0 0, .slice none 0 0, .slice none 0 0, .int .i64 0] 37)) from (Below.refl _ _).alloc (Nat.le_refl _) _); have HZ := hid (heap_alloc_new w (.cells #[.bool false, .slice none 0 0, .slice none 0 0, .slice none 0 0, .int .i64 0] 37)); clear hM hC hO hD; go_enter Tryz.func12, Tryz.ntmps12; go_wp2_with fail; refine HO.out.mono ?_; rintro e w1 ⟨b, G, rfl, hR, hb1⟩; obtain ⟨N, hN⟩ : ∃ N, N = (w.alloc (.cells #[.bool false, .slice none 0 0, .slice none 0 0, .slice none 0 0, .int .i64 0] 37)).heap.size := ⟨_, rfl⟩; have hN1 : N = w.heap.size + 1 := by rw [hN]; simp
  rw [← hN] at hR hb1; have HR := hid hR; have HBN := hid hb1; have HW1 := hid (show Below w.heap.size w w1 from HB1.out.trans (hb1.mono (by omega))); have HCA := hid (jeU Q a c l w1 (HM.out.next HW1.out) hl HC.out); have HZ1 := hid ((hb1.block w.heap.size (by omega)).trans HZ.out); clear hR hb1 hN HO HZ; go_wp2_with fail; refine HCA.out.mono ?_; rintro e w2 ⟨rfl, hb2⟩; have HR2 := hid (HR.out.next hb2); have HW2 := hid (HW1.out.trans (hb2.mono HW1.out.size)); have HZ2 := hid ((hb2.block w.heap.size (by have := HW1.out.size; have := (Array.getElem?_eq_some_iff.1 HZ1.out).1; omega)).trans HZ1.out); clear hb2 HCA HR HW1 HZ1 HBN; go_wp2
  go_loopw [25] (fun i wr => ∃ (k : Nat) (G' : List Nat), k ≤ l.length ∧ i = .int .i64 k ∧ Hid (RoomM K Cs N b G' (st k) wr) ∧ Hid (Below w.heap.size w wr) ∧ Hid (wr.heap[w.heap.size]? = some (.cells #[.bool false, .slice none 0 0, .slice none 0 0, .slice none 0 0, .int .i64 0] 37))) (fun i _ => l.length - (intOf i).toNat)
  case atStart => exact ⟨0, G, Nat.zero_le _, rfl, hid (by rw [h0]; exact HR2.out), HW2, HZ2⟩
  case round =>
    obtain ⟨k, G', hk, rfl, HRk, HBk, HZk⟩ := hrel
    by_cases hlt : k < l.length
    · have k1 : (k : Int) < (l.length : Int) := by omega
      have k0 : (0 : Int) ≤ (k : Int) := by omega
      have hx : l[k]? = some l[k] := List.getElem?_eq_getElem hlt; generalize l[k] = x at hx; obtain ⟨g, o, rfl, x0, x1, x2, x3, x4, x5, x6, x7, x8, x9, x10⟩ := (HM.out.next HBk.out).at hx; have hal : ∀ o, Below wr.heap.size wr (wr.alloc o) := fun o => (Below.refl _ _).alloc (Nat.le_refl _) o
      have HAL := hid hal; have HDX := hid (fun o => HD.out k x hx N b G' (wr.alloc o) (by omega) (HBk.out.trans ((hal o).mono HBk.out.size)) (HRk.out.next (hal o))); clear hx hal; unfold acuC at HDX; go_wp2_with fail; refine (HDX.out _).mono ?_; rintro e w3 ⟨rfl, G3, hR3, hs3⟩; have hlow := (HRk.out.next (HAL.out (.cells #[.int .i64 x.kind, .int .i64 x.conn, .int .i64 x.user, .int .i64 x.keep, .string (S x.data), .int .i64 x.ent.kind, .string (S x.ent.box), .int .i64 x.ent.uid, .int .i64 x.ent.flags, .string (S x.ent.goal), .string (S x.ent.text)] 32))).low hs3; have HR3 := hid hR3; have hzl := (Array.getElem?_eq_some_iff.1 HZk.out).1; have HB3 := hid (HBk.out.trans (((HAL.out _).mono HBk.out.size).trans (hlow.mono (by omega)))); have HZ3 := hid ((hlow.block w.heap.size (by omega)).trans (((HAL.out _).block w.heap.size hzl).trans HZk.out)); clear hR3 hs3 hlow hzl; go_wp2
      go_roundw
      case rel => first | exact ⟨k + 1, G3, by omega, by go_num, HR3, HB3, HZ3⟩ | ((repeat apply Exists.intro); exact ⟨⟨k + 1, G3, by omega, by go_num, HR3, HB3, HZ3⟩, rfl⟩)
      case measure => simp [intOf]; omega
    · have k1 : ¬ (k : Int) < (l.length : Int) := by omega
      obtain rfl : k = l.length := by omega
      have HOU := hid (jfj K Cs N b G' (st l.length) wr HRk.out); go_wp2_with fail; refine HOU.out.mono ?_; rintro e w3 ⟨ac, cc, ao, co, as_, cs, rfl, hO3, hb3⟩; have hr := (hb3.block w.heap.size (Array.getElem?_eq_some_iff.1 HZk.out).1).trans HZk.out; obtain ⟨r0, r1, r2, r3, r4⟩ := bx5 hr; have zf : ∀ o, w3.frozen? ⟨w.heap.size, o, none⟩ = false := fun o => by simp [World.frozen?, hr]
      have HR3 := hid hr; have HO3 := hid hO3; have HB3 := hid (HBk.out.trans (hb3.mono HBk.out.size)); clear hr hO3 hb3; have m := put5 (w := w3) (b := w.heap.size) (.bool (st l.length).up) (.slice ac 3 cc) (.slice ao (st l.length).orders.length co) (.slice as_ (st l.length).safe.length cs) (.int .i64 (st l.length).waits) HR3.out; have HM5 := hid m; clear m; go_wp2; obtain ⟨W6, hW6⟩ : ∃ W6, W6 = (((((w3.setCell ⟨w.heap.size, 0, none⟩ (.bool (st l.length).up)).setCell ⟨w.heap.size, 1, none⟩ (.slice ac 3 cc)).setCell ⟨w.heap.size, 2, none⟩ (.slice ao (st l.length).orders.length co)).setCell ⟨w.heap.size, 3, none⟩ (.slice as_ (st l.length).safe.length cs)).setCell ⟨w.heap.size, 4, none⟩ (.int .i64 (st l.length).waits)) := ⟨_, rfl⟩; have m := HM5.out; rw [← hW6] at m ⊢; obtain ⟨m0, m1, m2, m3, m4⟩ := bx5 m; refine bodyPost_ret (v := .tuple #[.agg #[.bool (st l.length).up, .slice ac 3 cc, .slice ao (st l.length).orders.length co, .slice as_ (st l.length).safe.length cs, .int .i64 (st l.length).waits], .int .i64 0]) (by simp only [results, Tryz.results12]; simp [go_sem, m0, m1, m2, m3, m4]) rfl ?_; have hB6 : Below w.heap.size w W6 := by
        rw [hW6]; exact (((((HB3.out.setCell (Nat.le_refl _) _).setCell (Nat.le_refl _) _).setCell (Nat.le_refl _) _).setCell (Nat.le_refl _) _).setCell (Nat.le_refl _) _)
      refine ⟨ac, cc, ao, co, as_, cs, rfl, OutM.mono (by omega) (OutM.next HO3.out (fun g hg hgN => ?_) ?_), hB6⟩
      · rw [hW6]; have hn : g ≠ w.heap.size := by omega
        exact (Below.heap_setCell _ _ _ _ hn).trans ((Below.heap_setCell _ _ _ _ hn).trans ((Below.heap_setCell _ _ _ _ hn).trans ((Below.heap_setCell _ _ _ _ hn).trans (Below.heap_setCell _ _ _ _ hn))))
      · rw [hW6]
        simp [World.setCell]
end Go.Proofs.YtlfgemnmfhknfaaGreatDoor
namespace Go.Proofs.YtlfgemnmfhknfaaGreatDoor
open Go.RowKit Go.Proofs
set_option maxHeartbeats 1000000 in
set_option maxRecDepth 100000 in
theorem jdy (s : Stt) (vb vs vb' vs' : Value) (w : World) (Q Q' : Nat → Prop) (hS : SttM Q w vb vs s) (hS' : SttM Q' w vb' vs' s) :
    Calls Tryz.prog 21 #[.agg #[vb, vs], .agg #[vb', vs']] w fun e w' => e = .returned (.bool true) ∧ Below w.heap.size w w' := by
  have hm := RowM.small hS.1; have hm2 := RowM.small hS.2.1; unfold maxLen at hm hm2; obtain ⟨ab, cb, rfl⟩ := RowM.slice hS.1; obtain ⟨aq, cq, rfl⟩ := RowM.slice hS.2.1; obtain ⟨ab', cb', rfl⟩ := RowM.slice hS'.1; obtain ⟨aq', cq', rfl⟩ := RowM.slice hS'.2.1; obtain ⟨W1, hW1⟩ : ∃ W1, W1 = (w.alloc (.cells #[.slice ab s.boxes.length cb, .slice aq s.spool.length cq] 55)).alloc (.cells #[.slice ab' s.boxes.length cb', .slice aq' s.spool.length cq'] 55) := ⟨_, rfl⟩; have HWE := hid hW1; have hB1 : Below w.heap.size w W1 := by rw [hW1]; exact ((Below.refl _ _).alloc (Nat.le_refl _) _).alloc (by simp) _
  have HB1 := hid hB1; have x0 : W1.cell? ⟨w.heap.size, 0, none⟩ = some (.slice ab s.boxes.length cb) := by rw [hW1]; exact jB (by simp) _
  have x1 : W1.cell? ⟨w.heap.size, 1, none⟩ = some (.slice aq s.spool.length cq) := by rw [hW1]; exact jB (by simp) _
  have x2 : W1.cell? ⟨w.heap.size + 1, 0, none⟩ = some (.slice ab' s.boxes.length cb') := by rw [hW1]; simp
  have x3 : W1.cell? ⟨w.heap.size + 1, 1, none⟩ = some (.slice aq' s.spool.length cq') := by rw [hW1]; simp
  have HS := hid (hS.next hB1); have HS' := hid (hS'.next hB1); clear hS hS' hW1 hB1; go_enter Tryz.func21, Tryz.ntmps21; go_wp2; rw [← HWE.out]
  go_loopw [5] (fun v wr => ∃ i : Nat, i ≤ s.spool.length ∧ v = .int .i64 i ∧ Hid (Below W1.heap.size W1 wr)) (fun v _ => s.spool.length - (intOf v).toNat)
  case atStart => exact ⟨0, Nat.zero_le _, rfl, Below.refl _ _⟩
  case round =>
    obtain ⟨i, hi, rfl, HB⟩ := hrel; have y0 := ja x0 HB.out; have y1 := ja x1 HB.out; have y2 := ja x2 HB.out; have y3 := ja x3 HB.out
    by_cases hlt : i < s.spool.length
    · have i1 : (i : Int) < (s.spool.length : Int) := by omega
      have i0 : (0 : Int) ≤ (i : Int) := by omega
      obtain ⟨x, hx⟩ : ∃ x, s.spool[i]? = some x := ⟨_, List.getElem?_eq_getElem hlt⟩; obtain ⟨b, o, rfl, _, e0, e1, e2, e3, e4, e5⟩ := (HS.out.2.1.next HB.out).at hx; obtain ⟨b', o', rfl, _, d0, d1, d2, d3, d4, d5⟩ := (HS'.out.2.1.next HB.out).at hx; clear hx; go_wp2
      go_quiet (fail)
      have HB2 := hid (qb HB.out nq); go_wp2
      go_roundw
      case rel => first | exact ⟨i + 1, by omega, by go_num, HB2⟩ | ((repeat apply Exists.intro); exact ⟨⟨i + 1, by omega, by go_num, HB2⟩, rfl⟩)
      case measure => simp [intOf]; omega
    · have i1 : ¬ (i : Int) < (s.spool.length : Int) := by omega
      obtain ⟨w0, rfl⟩ : ∃ W, W = wr := ⟨_, rfl⟩; go_wp2
      go_loopw [6] (fun v wr => ∃ i : Nat, i ≤ s.boxes.length ∧ v = .int .i64 i ∧ Hid (Below w0.heap.size w0 wr)) (fun v _ => s.boxes.length - (intOf v).toNat)
      case atStart => exact ⟨0, Nat.zero_le _, rfl, Below.refl _ _⟩
      case round =>
        obtain ⟨j, hj, rfl, HC⟩ := hrel; have u0 := ja y0 HC.out; have u2 := ja y2 HC.out
        by_cases hlj : j < s.boxes.length
        · have j1 : (j : Int) < (s.boxes.length : Int) := by omega
          have j0 : (0 : Int) ≤ (j : Int) := by omega
          obtain ⟨x, hx⟩ : ∃ x, s.boxes[j]? = some x := ⟨_, List.getElem?_eq_getElem hlj⟩; have hBC := HB.out.trans (HC.out.mono HB.out.size); obtain ⟨b, o, v, rfl, _, e0, e1, e2, hM⟩ := (HS.out.1.next hBC).at hx; obtain ⟨b', o', v', rfl, _, d0, d1, d2, hM'⟩ := (HS'.out.1.next hBC).at hx; obtain ⟨am, cm, rfl⟩ := RowM.slice hM; obtain ⟨am', cm', rfl⟩ := RowM.slice hM'; have hmm := RowM.small hM; unfold maxLen at hmm; obtain ⟨w1, rfl⟩ : ∃ W, W = wr := ⟨_, rfl⟩; obtain ⟨W2, hW2⟩ : ∃ W2, W2 = (w1.alloc (.cells #[.string (S x.name), .int .i64 x.next, .slice am x.mails.length cm] 73)).alloc (.cells #[.string (S x.name), .int .i64 x.next, .slice am' x.mails.length cm'] 73) := ⟨_, rfl⟩; have HWE2 := hid hW2; have hB2 : Below w1.heap.size w1 W2 := by rw [hW2]; exact ((Below.refl _ _).alloc (Nat.le_refl _) _).alloc (by simp) _
          have m2 : W2.cell? ⟨w1.heap.size, 2, none⟩ = some (.slice am x.mails.length cm) := by rw [hW2]; exact jB (by simp) _
          have m3 : W2.cell? ⟨w1.heap.size + 1, 2, none⟩ = some (.slice am' x.mails.length cm') := by rw [hW2]; simp
          have a2 := jB u2 (.cells #[.string (S x.name), .int .i64 x.next, .slice am x.mails.length cm] 73); have a3 := jB d0 (.cells #[.string (S x.name), .int .i64 x.next, .slice am x.mails.length cm] 73); have a4 := jB d1 (.cells #[.string (S x.name), .int .i64 x.next, .slice am x.mails.length cm] 73); have a5 := jB d2 (.cells #[.string (S x.name), .int .i64 x.next, .slice am x.mails.length cm] 73); have hn1 : w.heap.size + 1 ≠ w1.heap.size := Nat.ne_of_lt (World.block_lt_of_cell? _ _ u2); have hn2 : b' ≠ w1.heap.size := Nat.ne_of_lt (World.block_lt_of_cell? _ _ d0); have HM := hid (hM.next hB2); have HM' := hid (hM'.next hB2); have HB2 := hid hB2; clear hx hM hM' hW2 hB2 hBC; go_wp2; rw [← HWE2.out]
          go_loopw [9] (fun v wr => ∃ i : Nat, i ≤ x.mails.length ∧ v = .int .i64 i ∧ Hid (Below W2.heap.size W2 wr)) (fun v _ => x.mails.length - (intOf v).toNat)
          case atStart => exact ⟨0, Nat.zero_le _, rfl, Below.refl _ _⟩
          case round =>
            obtain ⟨k, hk, rfl, HD⟩ := hrel; have n2 := ja m2 HD.out; have n3 := ja m3 HD.out
            by_cases hlk : k < x.mails.length
            · have k1 : (k : Int) < (x.mails.length : Int) := by omega
              have k0 : (0 : Int) ≤ (k : Int) := by omega
              obtain ⟨m, hm'⟩ : ∃ m, x.mails[k]? = some m := ⟨_, List.getElem?_eq_getElem hlk⟩; obtain ⟨p, q, rfl, _, f0, f1, f2⟩ := (HM.out.next HD.out).at hm'; obtain ⟨p', q', rfl, _, g0, g1, g2⟩ := (HM'.out.next HD.out).at hm'; clear hm'; go_wp2
              go_quiet (fail)
              have HD2 := hid (qb HD.out nq); go_wp2
              go_roundw
              case rel => first | exact ⟨k + 1, by omega, by go_num, HD2⟩ | ((repeat apply Exists.intro); exact ⟨⟨k + 1, by omega, by go_num, HD2⟩, rfl⟩)
              case measure => simp [intOf]; omega
            · have k1 : ¬ (k : Int) < (x.mails.length : Int) := by omega
              have HC2 := hid (show Below w0.heap.size w0 wr from HC.out.trans ((HB2.out.trans (HD.out.mono HB2.out.size)).mono HC.out.size)); go_wp2
              go_roundw
              case rel => first | exact ⟨j + 1, by omega, by go_num, HC2⟩ | ((repeat apply Exists.intro); exact ⟨⟨j + 1, by omega, by go_num, HC2⟩, rfl⟩)
              case measure => simp [intOf]; omega
        · have j1 : ¬ (j : Int) < (s.boxes.length : Int) := by omega
          have HE := hid (show Below w.heap.size w wr from (HB1.out.trans (HB.out.mono HB1.out.size)).trans (HC.out.mono (Nat.le_trans HB1.out.size HB.out.size))); go_wp2; go_ret; exact ⟨rfl, HE.out⟩
end Go.Proofs.YtlfgemnmfhknfaaGreatDoor
