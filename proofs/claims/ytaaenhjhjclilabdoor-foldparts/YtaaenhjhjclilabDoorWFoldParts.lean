/-
  A state is what its batches make, one behind the other; those of others do not touch it: walked.
-/
import Derived.Test.YtaaenhjhjclilabDoorBkLz
import Derived.Test.YtaaenhjhjclilabDoorBkFo
import Derived.Test.YtaaenhjhjclilabDoorBoxSm
namespace Go.Proofs.YtaaenhjhjclilabDoor
open Go.RowKit Go.Proofs

/-- The batches of one user. -/
def mineK (u : Int) (bs : List Bat) (k : Nat) : List Bat := (bs.take k).filter fun b => decide (b.user = u)
theorem mineK_yes {u : Int} {bs : List Bat} {k : Nat} {x : Bat} (h : bs[k]? = some x) (hu : x.user = u) : mineK u bs (k + 1) = mineK u bs k ++ [x] := by
  have hk : k < bs.length := (List.getElem?_eq_some_iff.1 h).1
  unfold mineK
  rw [List.take_succ_eq_append_getElem hk, (List.getElem?_eq_some_iff.1 h).2, List.filter_append]
  simp [hu]
theorem mineK_no {u : Int} {bs : List Bat} {k : Nat} {x : Bat} (h : bs[k]? = some x) (hu : ¬ x.user = u) : mineK u bs (k + 1) = mineK u bs k := by
  have hk : k < bs.length := (List.getElem?_eq_some_iff.1 h).1
  unfold mineK
  rw [List.take_succ_eq_append_getElem hk, (List.getElem?_eq_some_iff.1 h).2, List.filter_append]
  simp [hu]
theorem mineK_len (u : Int) (bs : List Bat) (k : Nat) : (mineK u bs k).length ≤ bs.length := by
  unfold mineK
  exact Nat.le_trans (List.length_filter_le _ _) (by rw [List.length_take]; omega)
theorem fold_mine (u : Int) : ∀ (bs : List Bat) (s : Stt), (bs.filter fun b => decide (b.user = u)).foldl (foldS u) s = bs.foldl (foldS u) s := by
  intro bs
  induction bs with
  | nil => intro s; rfl
  | cons b bs ih =>
    intro s
    by_cases h : b.user = u
    · rw [List.filter_cons_of_pos (by simp [h])]
      exact ih _
    · rw [List.filter_cons_of_neg (by simp [h]), ih, List.foldl_cons]
      have : foldS u s b = s := by unfold foldS; rw [if_neg h]
      rw [this]
theorem foldM_pos (u : Int) (bs : List Bat) : 0 < (foldM u bs).boxes.length := by
  have hdo : ∀ {s s' : Stt} {x : Ent}, doM s x = .ok s' → 0 < s.boxes.length → 0 < s'.boxes.length := by
    intro s s' x h hp
    have ha : ∀ (i : Nat) (f : Int) (t : List UInt8), addM s i f t = .ok s' → 0 < s'.boxes.length := fun i f t h => by
      unfold addM at h
      split at h
      · cases h
      · split at h
        · cases h
        · cases h; simpa using hp
    unfold doM at h
    repeat' (first | (cases h; done) | (cases h; simp; done) | (cases h; simpa using hp) | exact ha _ _ _ h | split at h)
  have hall : ∀ (l : List Ent) (s s' : Stt), allM s l = .ok s' → 0 < s.boxes.length → 0 < s'.boxes.length := by
    intro l
    induction l with
    | nil => intro s s' h hp; cases h; exact hp
    | cons x l ih =>
      intro s s' h hp
      unfold allM at h
      split at h
      · cases h
      · rename_i s2 he; exact ih _ _ h (hdo he hp)
  have key : ∀ (bs : List Bat) (s : Stt), 0 < s.boxes.length → 0 < (bs.foldl (foldS u) s).boxes.length := by
    intro bs
    induction bs with
    | nil => intro s h; exact h
    | cons b bs ih =>
      intro s h
      refine ih _ ?_
      unfold foldS
      split
      · split
        · rename_i s' he; exact hall _ _ _ he h
        · exact h
      · exact h
  exact key _ _ (by decide)
/-- The state so far, in the law's variable; it lies outside the row g. -/
def FvI (q : Nat) (g : Option Nat) (wr : World) (s : Stt) : Prop := ∃ ab nb cb ae ns cs, wr.heap[q]? = some (.cells #[.slice ab nb cb, .slice ae ns cs] 29) ∧ SttM (fun k => k ≠ q ∧ some k ≠ g) wr (.slice ab nb cb) (.slice ae ns cs) s
theorem FvI.same {q : Nat} {g : Option Nat} {wr wx : World} {s : Stt} (h : FvI q g wr s) (hb : Below wr.heap.size wr wx) : FvI q g wx s := by
  obtain ⟨ab, nb, cb, ae, ns, cs, h1, h2⟩ := h
  exact ⟨ab, nb, cb, ae, ns, cs, bk_low hb h1, h2.next hb⟩
theorem FvI.step {q : Nat} {g : Option Nat} {wr wx : World} {s s' : Stt} {n1 c1 n2 c2 : Nat} {a1 a2 : Option Addr} {vm : List Value} (h : FvI q g wr s) (hM : May s') (hb : Below wr.heap.size wr wx) (hO : OwnS wr.heap.size wx (.slice a1 n1 c1) (.slice a2 n2 c2) vm s') (hg : ∀ k, g = some k → k < wr.heap.size) :
    FvI q g ((wx.setCell ⟨q, 0, none⟩ (.slice a1 n1 c1)).setCell ⟨q, 1, none⟩ (.slice a2 n2 c2)) s' := by
  obtain ⟨ab, nb, cb, ae, ns, cs, h1, _⟩ := h
  have hql : q < wr.heap.size := (Array.getElem?_eq_some_iff.1 h1).1
  have hS := hO.stt (Q := fun k => k ≠ q ∧ some k ≠ g) hM (fun k hk => by
    have h1 := (hO.lt hk).1
    exact ⟨by omega, fun e => by have := hg k e.symm; omega⟩)
  exact ⟨a1, n1, c1, a2, n2, c2, bk_put (bk_low hb h1), hS.imp (fun _ h => h) ((Keeps.set wx (p := ⟨q, 0, none⟩) _ fun b hb => hb.1).trans (Keeps.set _ (p := ⟨q, 1, none⟩) _ fun b hb => hb.1))⟩
theorem stt_both {Q : Nat → Prop} {w : World} {vb vs : Value} {s : Stt} (h : SttM Q w vb vs s) : SttM (fun k => Q k ∧ k < w.heap.size) w vb vs s := by
  have row : ∀ {A : Type} {n : Nat} {P P' : A → List Value → Prop} {v : Value} {l : List A}, RowM Q n P w v l → (∀ x cs, P x cs → P' x cs) → RowM (fun k => Q k ∧ k < w.heap.size) n P' w v l := by
    intro A n P P' v l h hP
    obtain ⟨a, c, h1, h2, h3⟩ := h
    refine ⟨a, c, h1, h2, fun i x hx => ?_⟩
    obtain ⟨b, o, cs, e, hb, hq, h4, h5, h6⟩ := h3 i x hx
    exact ⟨b, o, cs, e, hb, ⟨hq, hb⟩, h4, h5, hP x cs h6⟩
  exact ⟨row h.1 fun _ _ ⟨v, e, hm⟩ => ⟨v, e, row hm fun _ _ h => h⟩, row h.2.1 fun _ _ h => h, h.2.2⟩
theorem FvI.grow {q gm : Nat} {g : Option Nat} {w w4 : World} {s : Stt} (h : FvI q g w s) (hgrow : w.grownBy w4 g) (hat : g = some gm ∨ gm = w.heap.size) (hq : g ≠ some q) : FvI q (some gm) w4 s := by
  obtain ⟨ab, nb, cb, ae, ns, cs, h1, h2⟩ := h
  have hql : q < w.heap.size := (Array.getElem?_eq_some_iff.1 h1).1
  refine ⟨ab, nb, cb, ae, ns, cs, (hgrow.block q hql fun e => hq e.symm).trans h1, ?_⟩
  exact (stt_both h2).imp (fun k hk => ⟨hk.1.1, fun e => by
    cases e
    rcases hat with h | h
    · exact hk.1.2 h.symm
    · have := hk.2; omega⟩) ⟨hgrow.size, fun k hk hq => hgrow.block k hk hq.1.2⟩
theorem OwnBs.lt {B : Nat} {X : Nat → Prop} {w : World} {v : Value} {l : List Bat} (h : OwnBs B X w v l) : ∀ k, v.ownBlock = some k → B ≤ k ∧ k < w.heap.size := by
  obtain ⟨vs, _, h2, _⟩ := h
  exact fun k hk => World.ownsRow.lt h2 k hk
theorem bats_block {Q : Nat → Prop} {w : World} {b o n c : Nat} {l : List Bat} (h : BatsM Q w (.slice (some ⟨b, o, none⟩) n c) l) {i : Nat} {x : Bat} (hx : l[i]? = some x) : b < w.heap.size := by
  obtain ⟨a', c', hv, _, hr⟩ := h
  simp only [Value.slice.injEq] at hv
  obtain ⟨rfl, _, rfl⟩ := hv
  obtain ⟨b', o', cs, e, hb, _⟩ := hr i x hx
  simp only [Option.some.injEq, Addr.mk.injEq, and_true] at e
  omega
set_option maxHeartbeats 2000000 in
set_option maxRecDepth 100000 in
theorem foldParts_walk (w : World) (_hm : maxLenCell w) (a : Option Addr) (c : Nat) (ls : List Chr) (hF : ChsM (fun _ => True) w (.slice a ls.length c) ls) (hB : ∀ x ∈ ls, chrW x) (hC : ls.length ≤ c) (user : Int) (hus : (Lit.int .i64 user).wf = true) :
    Calls Tryd.prog 3 #[.slice a ls.length c, .int .i64 user] w fun e w' => e = .returned (.bool true) ∧ Below w.heap.size w w' := by
  obtain ⟨i0, hi, hz0, hz1, hz2⟩ := info_parts infoBt
  have HBO := hid (batchesOf_any ls a c w _ hF hB hC)
  have hmany := batsP_many ls
  have HOK := hid (batsP_ok ls)
  generalize batsP ls = bs at *
  have HPK := hid (show ∀ v : World, Calls Tryd.prog 6 #[.int .i64 user, .int .i64 3] v fun e w' => e = .returned (.int .i64 (pickN user 3 : Nat)) ∧ w' = v from fun v => picked_any user 3 v hus (by decide) (by decide))
  have hu3 := pickN_lt user 3 (by decide)
  obtain ⟨u, hu⟩ : ∃ u : Nat, u = pickN user 3 := ⟨_, rfl⟩
  rw [← hu] at HPK hu3
  have HUO := hid (show (0 : Int) ≤ (u : Int) ∧ (u : Int) < 3 by omega)
  have HFM := hid (foldM_pos (u : Int) bs)
  clear hF hB hC hus hu
  go_enter Tryd.func3, Tryd.ntmps3
  go_wp2_with fail
  refine HBO.out.mono ?_
  rintro e w1 ⟨a1, c1, rfl, _, hB1, hb1⟩
  have HB1 := hid hb1
  have HBS := hid hB1
  clear hB1 hb1 HBO
  go_wp2_with fail
  refine (HPK.out _).mono ?_
  rintro e v ⟨rfl, hv⟩
  have hv' := hv.symm
  subst hv'
  clear hv
  have HF0 := hid (fold_any [] none 0 (u : Int) (fun _ => True) w1 (rowM_nil _ _ _ _ _ _) (fun b hb => by cases hb))
  rw [if_pos HUO.out] at HF0
  go_wp2_with fail
  refine HF0.out.mono ?_
  rintro e w2 ⟨b1, m1, d1, b2, m2, d2, rfl, hS2, hb2⟩
  obtain ⟨W3, hW3⟩ : ∃ W3, W3 = w2.alloc (.cells #[.slice b1 m1 d1, .slice b2 m2 d2] 29) := ⟨_, rfl⟩
  have HWE3 := hid hW3
  have hB23 : Below w2.heap.size w2 W3 := by rw [hW3]; exact one_box _ _
  have hp3 : W3.heap[w2.heap.size]? = some (.cells #[.slice b1 m1 d1, .slice b2 m2 d2] 29) := by rw [hW3]; exact heap_alloc_new w2 _
  have HB13 := hid (show Below w1.heap.size w1 W3 from hb2.trans (hB23.mono hb2.size))
  have HI3 := hid (show FvI w2.heap.size none W3 (foldK (u : Int) bs 0) from ⟨_, _, _, _, _, _, hp3, (stt_low hS2).imp (fun k (hk : k < w2.heap.size) => ⟨by omega, by simp⟩) (Keeps.of_below hB23)⟩)
  have HQ := hid (show w1.heap.size ≤ w2.heap.size from hb2.size)
  have HW3 := hid (show w2.heap.size < W3.heap.size from (Array.getElem?_eq_some_iff.1 hp3).1)
  obtain ⟨q, hq⟩ : ∃ q, q = w2.heap.size := ⟨_, rfl⟩
  have HQE := hid hq
  rw [← hq] at HI3 HQ HW3
  clear hW3 hB23 hp3 hS2 hb2 HF0 hq
  go_upto_region 4 with fail
  rw [← HWE3.out, ← HQE.out]
  go_wp2
  go_loopw [9, 10] (fun m v wr => ∃ (k : Nat) (a9 : Option Addr) (c9 : Nat), k ≤ bs.length ∧ v = .int .i64 (k : Int) ∧ m = .slice a9 (mineK (u : Int) bs k).length c9 ∧ Hid (FvI q (Value.slice a9 (mineK (u : Int) bs k).length c9).ownBlock wr (foldK (u : Int) bs k)) ∧ Hid (OwnBs (q + 1) (fun k => k < w1.heap.size) wr (.slice a9 (mineK (u : Int) bs k).length c9) (mineK (u : Int) bs k)) ∧ Hid (Below w1.heap.size w1 wr)) (fun _ v _ => bs.length - (intOf v).toNat)
  case atStart => exact ⟨0, none, 0, Nat.zero_le _, rfl, rfl, HI3, OwnBs.nil _ _ _, HB13⟩
  case round =>
    obtain ⟨k, a9, c9, hk, rfl, rfl, HI, HO, HB⟩ := hrel
    have hml := mineK_len (u : Int) bs k
    by_cases hlt : k < bs.length
    · have k1 : (k : Int) < (bs.length : Int) := by omega
      have k0 : (0 : Int) ≤ (k : Int) := by omega
      obtain ⟨x, hx⟩ : ∃ x, bs[k]? = some x := ⟨_, List.getElem?_eq_getElem hlt⟩
      have HFS := hid (foldK_step (u := (u : Int)) hx)
      obtain ⟨b, o, ae, ce, rfl, e0, e1, hE⟩ := ((bats_low HBS.out).imp (w' := wr) (fun _ h => h) (Keeps.of_below' HB.out fun _ h => h)).at hx
      have hblt : b < w1.heap.size := bats_block (bats_low HBS.out) hx
      by_cases hu : x.user = (u : Int)
      · have hub : (x.user == (u : Int)) = true := by simp [hu]
        have HMI := hid (mineK_yes hx hu)
        have HUU := hid hu
        have HBB := hid (show b < w1.heap.size from hblt)
        have HMK := hid (foldK_may (u := (u : Int)) HOK.out k)
        have hxo := HOK.out x (List.mem_of_getElem? hx)
        have HXE := hid hxo.each
        have HXM := hid hxo.many.2
        have HE := hid hE
        obtain ⟨vs, hv1, hv2, hv3⟩ := HO.out
        have HV1 := hid hv1
        have HV2 := hid hv2
        have HV3 := hid hv3
        have HLT := hid HO.out.lt
        have hqw : q < wr.heap.size := by
          obtain ⟨_, _, _, _, _, _, h1, _⟩ := HI.out
          exact (Array.getElem?_eq_some_iff.1 h1).1
        have HQ1 := hid HQ.out
        generalize mineK (u : Int) bs k = mk at *
        clear hx hE hxo hv1 hv2 hv3 hu
        go_wp2_with (first
          | (at_builtin; refine wpList_append_lies _ rfl _ _ 23 rfl (q + 1) 34 i0 _ 2 32 Tryd.underlying23 hi hz0 hz1 hz2 rfl (by omega) (.slice a9 mk.length c9) mk.length ((btCs mk vs).flatten) rfl (World.ownsRow.alloc HV2.out _) ⟨wr.heap.size, 0, none⟩ 1 1 [.int .i64 x.user, .slice ae x.ents.length ce] rfl rfl (bk_two_new wr _ _ _) ?c1 (by omega) ?c2 ?c3 ?c4 _ rfl ?_)
          | fail)
        case c1 => simp [Value.oneCell']
        case c2 => unfold maxLen; omega
        case c3 => omega
        case c4 => first | omega | (simp; omega)
        intro gm cap w4 hown hgrow hat hlt4
        have hal : Below wr.heap.size wr (wr.alloc (.cells #[.int .i64 x.user, .slice ae x.ents.length ce] 34)) := (Below.refl _ _).alloc (Nat.le_refl _) _
        have hat' : (Value.slice a9 mk.length c9).ownBlock = some gm ∨ gm = (wr.alloc (.cells #[.int .i64 x.user, .slice ae x.ents.length ce] 34)).heap.size := by simpa using hat
        have HO4 := hid (show OwnBs (q + 1) (fun k => k < w1.heap.size) w4 (.slice (some ⟨gm, 0, none⟩) (mk.length + 1) cap) (mk ++ [x]) by
          refine OwnBs.app HV1.out rfl (fun i b u hb hu => ?_) hown hgrow hat' ?_
          · obtain ⟨a', c', e, h⟩ := HV3.out i b u hb hu
            exact ⟨a', c', e, h.next hal⟩
          · refine (HE.out.next hal).imp (fun r (hr : r < w1.heap.size) => ⟨fun e => ?_, hr⟩) (Keeps.refl _ _)
            have := (HLT.out r e.symm).1
            have := HQ1.out
            omega)
        have HI4 := hid (show FvI q (some gm) w4 (foldK (u : Int) bs k) from (HI.out.same hal).grow hgrow hat' (fun e => by have := (HLT.out q e).1; omega))
        have hb4 : Below (q + 1) wr w4 := ((Below.refl (q + 1) wr).alloc (by omega) _).grown hgrow (by simp; omega) (fun j hj => (HLT.out j hj).1)
        have HB4 := hid (show Below w1.heap.size w1 w4 from HB.out.trans (hb4.mono (by have := HQ1.out; omega)))
        have e0' := (hb4.cell (p := ⟨b, o + k * 2, none⟩) (by have := HBB.out; have := HQ1.out; simp; omega)).trans e0
        have e1' := (hb4.cell (p := ⟨b, o + k * 2 + 1, none⟩) (by have := HBB.out; have := HQ1.out; simp; omega)).trans e1
        have HE4 := hid (show EntsM (fun k => k < w1.heap.size) w4 (.slice ae x.ents.length ce) x.ents from HE.out.imp (fun _ h => h) (Keeps.of_below' hb4 fun k hk => by have := HQ1.out; omega))
        obtain ⟨f1, g1, h1, f2, g2, h2, hq4, hS4⟩ := HI4.out
        obtain ⟨z0, z1, zf0, zf1⟩ := bk_box2 hq4
        have hq4w : q < w4.heap.size := (Array.getElem?_eq_some_iff.1 hq4).1
        have HG4 := hid (show ∀ r, some gm = some r → r < w4.heap.size from fun r hr => (HO4.out.lt r hr).2)
        have HG5 := hid (show q + 1 ≤ gm from (HO4.out.lt gm rfl).1)
        have hne0 : q ≠ w4.heap.size := by omega
        have hneb : b ≠ w4.heap.size := Nat.ne_of_lt (World.block_lt_of_cell? _ _ e0')
        have HAL := hid (fun v (hv : Below w4.heap.size w4 v) => all_any (foldK (u : Int) bs k) (.slice f1 g1 h1) (.slice f2 g2 h2) x.ents ae ce v (fun _ => True) ((hS4.next hv).imp (fun _ _ => trivial) (Keeps.refl _ _)) HMK.out ((HE4.out.next hv).imp (fun _ _ => trivial) (Keeps.refl _ _)) HXM.out HXE.out)
        have HBA := hid (show Below w4.heap.size w4 (w4.alloc (.cells #[.slice none 0 0, .slice none 0 0] 29)).drew from ((Below.refl w4.heap.size w4).alloc (Nat.le_refl _) _).drew)
        have HNA := hid (show (w4.alloc (.cells #[.slice none 0 0, .slice none 0 0] 29)).drew.heap[w4.heap.size]? = some (.cells #[.slice none 0 0, .slice none 0 0] 29) from heap_alloc_new w4 _)
        clear hown hgrow hat hat' hal hb4 hq4 hS4 e0 e1
        go_upto_region 10 with fail
        go_cut [11, 12] (fun p v wx => NxP w4 (allM (foldK (u : Int) bs k) x.ents) p v wx)
        case first =>
          go_region_held3 (fun w' => w'.cell? ⟨q, 0, none⟩ = some (.slice f1 g1 h1) ∧ w'.cell? ⟨q, 1, none⟩ = some (.slice f2 g2 h2) ∧ w'.cell? ⟨b, o + k * 2 + 1, none⟩ = some (.slice ae x.ents.length ce))
            (first | (go_keep; done) | exact ⟨far2 hne0 r0, far2 hne0 r1, far2 hneb r2⟩ | fail)
            (first
              | (go_at_call 8
                 with_reducible refine (HAL.out w4.drew ((Below.refl _ _).drew)).mono ?_
                 intro e w5 hA
                 have hb := (Below.refl w4.heap.size w4).drew.trans hA.1
                 obtain ⟨t1, m1, c1, t2, m2, c2, zz, rfl, hR⟩ := hA.form
                 have HAR := hid hR
                 have HBf := hid hb
                 have HFst := hid (show w4.drew.heap.size = w4.heap.size from rfl)
                 have r0 := wcell_next z0 hb
                 have r1 := wcell_next z1 hb
                 have r2 := wcell_next e1' hb
                 clear hA hb hR)
              | (go_at_call 8
                 with_reducible refine (HAL.out ((w4.alloc (.cells #[.slice none 0 0, .slice none 0 0] 29)).drew) HBA.out).mono ?_
                 intro e w5 hA
                 have hb := HBA.out.trans (hA.1.mono HBA.out.size)
                 obtain ⟨t1, m1, c1, t2, m2, c2, zz, rfl, hR⟩ := hA.form
                 have HAR := hid hR
                 have HBf := hid hb
                 have HPe := hid (low_obj hA.1 HNA.out)
                 obtain ⟨t0', t1', f0', f1'⟩ := box2f HPe.out
                 have r0 := wcell_next z0 hb
                 have r1 := wcell_next z1 hb
                 have r2 := wcell_next e1' hb
                 clear hA hb hR)
              | fail)
          all_goals
            go_wp2_with fail
            go_meet
            first
              | exact nx_end (p := w5.heap.size) (heap_alloc_new w5 _) (fun k hk _ => heap_alloc_old w5 _ hk) (HBf.out.alloc HBf.out.size _) HAR.out (Nat.le_refl _) HBf.out.size (fun vm s' hO hg => by have := (hO.lt hg).2; omega)
              | exact nx_end (p := w4.heap.size) (set2_block HPe.out) (fun k hk hne => (set_other hne).trans (set_other hne)) ((HBf.out.setCell (Nat.le_refl _) _).setCell (Nat.le_refl _) _) HAR.out HBA.out.size (Nat.le_refl _) (fun vm s' hO hg => by have h1 := (hO.lt hg).1; simp at h1; omega)
              | fail
        case rest =>
          obtain ⟨pn, t1, m1, c1, t2, m2, c2, zz, rfl, rfl, hp, hpn, hb, hr⟩ := hcut
          obtain ⟨y0, y1, _, _⟩ := bk_box2 hp
          have HOc := hid (HO4.out.keep hb)
          have HIc := hid (HI4.out.same hb)
          have HBc := hid (show Below w1.heap.size w1 wc from HB4.out.trans (hb.mono HB4.out.size))
          have hml1 : (mk ++ [x]).length = mk.length + 1 := by simp
          have HML := hid hml1
          clear hml1
          cases hd : allM (foldK (u : Int) bs k) x.ents with
          | error er =>
            rw [hd] at hr
            have hz : zz = er := hr
            have hzn : ¬ zz = 0 := by rw [hz]; exact allM_err hd
            have hz' : (zz == 0) = false := by rw [beq_eq_false_iff_ne]; exact hzn
            have HI6 := hid (show FvI q (Value.slice (some ⟨gm, 0, none⟩) (mineK (u : Int) bs (k + 1)).length cap).ownBlock wc (foldK (u : Int) bs (k + 1)) by
              rw [HFS.out]
              unfold foldS
              rw [if_pos HUU.out, hd]
              exact HIc.out)
            have HO6 := hid (show OwnBs (q + 1) (fun k => k < w1.heap.size) wc (.slice (some ⟨gm, 0, none⟩) (mineK (u : Int) bs (k + 1)).length cap) (mineK (u : Int) bs (k + 1)) by rw [HMI.out, HML.out]; exact HOc.out)
            clear hb hp hd hr hz
            go_wp2
            go_roundw
            case rel => first | exact ⟨k + 1, _, cap, by omega, by go_num, by rw [HMI.out, HML.out], HI6, HO6, HBc⟩ | ((repeat apply Exists.intro); exact ⟨⟨k + 1, _, cap, by omega, by go_num, by rw [HMI.out, HML.out], HI6, HO6, HBc⟩, rfl⟩)
            case measure => simp [intOf]; omega
          | ok s' =>
            rw [hd] at hr
            obtain ⟨hz, vm, hO⟩ := hr
            subst hz
            have HI6 := hid (show FvI q (Value.slice (some ⟨gm, 0, none⟩) (mineK (u : Int) bs (k + 1)).length cap).ownBlock ((wc.setCell ⟨q, 0, none⟩ (.slice t1 m1 c1)).setCell ⟨q, 1, none⟩ (.slice t2 m2 c2)) (foldK (u : Int) bs (k + 1)) by
              rw [HFS.out]
              unfold foldS
              rw [if_pos HUU.out, hd]
              exact HI4.out.step (allM_may HMK.out HXE.out hd) hb hO HG4.out)
            have HO6 := hid (show OwnBs (q + 1) (fun k => k < w1.heap.size) ((wc.setCell ⟨q, 0, none⟩ (.slice t1 m1 c1)).setCell ⟨q, 1, none⟩ (.slice t2 m2 c2)) (.slice (some ⟨gm, 0, none⟩) (mineK (u : Int) bs (k + 1)).length cap) (mineK (u : Int) bs (k + 1)) by
              rw [HMI.out, HML.out]
              have hq1 := HQ1.out
              exact (HOc.out.but (bk_butset (b := q) wc 0 _) (by omega) (fun k (hk : k < w1.heap.size) => by omega)).but (bk_butset (b := q) _ 1 _) (by omega) (fun k (hk : k < w1.heap.size) => by omega))
            have HB6 := hid (show Below w1.heap.size w1 ((wc.setCell ⟨q, 0, none⟩ (.slice t1 m1 c1)).setCell ⟨q, 1, none⟩ (.slice t2 m2 c2)) from (HBc.out.setCell (by have := HQ1.out; simp; omega) _).setCell (by have := HQ1.out; simp; omega) _)
            obtain ⟨_, _, _, _, _, _, gq, _⟩ := HIc.out
            obtain ⟨d0, d1', df0, df1⟩ := bk_box2 gq
            clear hb hp hd hO gq
            go_wp2
            go_roundw
            case rel => first | exact ⟨k + 1, _, cap, by omega, by go_num, by rw [HMI.out, HML.out], HI6, HO6, HB6⟩ | ((repeat apply Exists.intro); exact ⟨⟨k + 1, _, cap, by omega, by go_num, by rw [HMI.out, HML.out], HI6, HO6, HB6⟩, rfl⟩)
            case measure => simp [intOf]; omega
      · have hub : (x.user == (u : Int)) = false := by rw [beq_eq_false_iff_ne]; exact hu
        have HMI := hid (mineK_no hx hu)
        have HI2 := hid (show FvI q (Value.slice a9 (mineK (u : Int) bs (k + 1)).length c9).ownBlock wr (foldK (u : Int) bs (k + 1)) by
          rw [HMI.out]
          rw [HFS.out]
          unfold foldS
          rw [if_neg hu]
          exact HI.out)
        have HO2 := hid (show OwnBs (q + 1) (fun k => k < w1.heap.size) wr (.slice a9 (mineK (u : Int) bs (k + 1)).length c9) (mineK (u : Int) bs (k + 1)) by rw [HMI.out]; exact HO.out)
        go_wp2
        go_roundw
        case rel => first | exact ⟨k + 1, a9, c9, by omega, by go_num, by rw [HMI.out], HI2, HO2, HB⟩ | ((repeat apply Exists.intro); exact ⟨⟨k + 1, a9, c9, by omega, by go_num, by rw [HMI.out], HI2, HO2, HB⟩, rfl⟩)
        case measure => simp [intOf]; omega
    · have hkl : k = bs.length := by omega
      have HFK := hid (show foldK (u : Int) bs k = foldM (u : Int) bs by unfold foldK foldM; rw [List.take_of_length_le (by omega)])
      have HMF := hid (show foldM (u : Int) (mineK (u : Int) bs k) = foldM (u : Int) bs by unfold foldM mineK; rw [List.take_of_length_le (by omega)]; exact fold_mine _ _ _)
      have HMO := hid (show ∀ b ∈ mineK (u : Int) bs k, BatOk b from fun b hb => HOK.out b (List.mem_of_mem_take (List.mem_filter.1 hb).1))
      have HIF := hid (show FvI q (Value.slice a9 (mineK (u : Int) bs k).length c9).ownBlock wr (foldM (u : Int) bs) by rw [← HFK.out]; exact HI.out)
      have HMB := hid (HO.out.bats (by omega))
      generalize mineK (u : Int) bs k = mk at *
      have k1 : ¬ (k : Int) < (bs.length : Int) := by omega
      have HF1 := hid (fold_any bs a1 c1 (u : Int) _ wr (HBS.out.next HB.out) HOK.out)
      rw [if_pos HUO.out] at HF1
      have hF := HFM.out
      generalize foldM (u : Int) bs = F at *
      clear hkl
      go_wp2_with fail
      refine HF1.out.mono ?_
      rintro e w5 ⟨f1, g1, h1, f2, g2, h2, rfl, hS5, hb5⟩
      obtain ⟨W6, hW6⟩ : ∃ W6, W6 = w5.alloc (.cells #[.slice f1 g1 h1, .slice f2 g2 h2] 29) := ⟨_, rfl⟩
      have HWE6 := hid hW6
      have hB56 : Below w5.heap.size w5 W6 := by rw [hW6]; exact one_box _ _
      have hp6 : W6.heap[w5.heap.size]? = some (.cells #[.slice f1 g1 h1, .slice f2 g2 h2] 29) := by rw [hW6]; exact heap_alloc_new w5 _
      have HP6 := hid hp6
      have HB6 := hid (show Below wr.heap.size wr W6 from hb5.trans (hB56.mono hb5.size))
      have HS6 := hid (hS5.next hB56)
      have HF2 := hid (fold_any mk a9 c9 (u : Int) _ W6 (HMB.out.next HB6.out) HMO.out)
      rw [if_pos HUO.out, HMF.out] at HF2
      clear hW6 hB56 hp6 hS5 hb5 HF1
      go_upto_region 14 with fail
      rw [← HWE6.out]
      go_wp2_with fail
      refine HF2.out.mono ?_
      rintro e w7 ⟨f3, g3, h3, f4, g4, h4, rfl, hS7, hb7⟩
      obtain ⟨W8, hW8⟩ : ∃ W8, W8 = w7.alloc (.cells #[.slice f3 g3 h3, .slice f4 g4 h4] 29) := ⟨_, rfl⟩
      have HWE8 := hid hW8
      have hB78 : Below w7.heap.size w7 W8 := by rw [hW8]; exact one_box _ _
      have hp8 : W8.heap[w7.heap.size]? = some (.cells #[.slice f3 g3 h3, .slice f4 g4 h4] 29) := by rw [hW8]; exact heap_alloc_new w7 _
      have HP8 := hid hp8
      have HB68 := hid (show Below W6.heap.size W6 W8 from hb7.trans (hB78.mono hb7.size))
      have HB8 := hid (show Below wr.heap.size wr W8 from HB6.out.trans (HB68.out.mono HB6.out.size))
      have HS8 := hid (hS7.next hB78)
      have HF3 := hid (fold_any bs a1 c1 3 _ W8 ((HBS.out.next HB.out).next HB8.out) HOK.out)
      rw [if_neg (by decide)] at HF3
      clear hW8 hB78 hp8 hS7 hb7 HF2
      go_upto_region 15 with fail
      rw [← HWE8.out]
      go_wp2_with fail
      refine HF3.out.mono ?_
      rintro e w9 ⟨rfl, hb9⟩
      obtain ⟨W10, hW10⟩ : ∃ W10, W10 = w9.alloc (.cells #[.slice none 0 0, .slice none 0 0] 29) := ⟨_, rfl⟩
      have HWE10 := hid hW10
      have hB910 : Below w9.heap.size w9 W10 := by rw [hW10]; exact one_box _ _
      have HB810 := hid (show Below W8.heap.size W8 W10 from hb9.trans (hB910.mono hb9.size))
      have HB610 := hid (show Below W6.heap.size W6 W10 from HB68.out.trans (HB810.out.mono HB68.out.size))
      have HB10 := hid (show Below wr.heap.size wr W10 from HB8.out.trans (HB810.out.mono HB8.out.size))
      obtain ⟨f5, g5, h5, f6, g6, h6, hq10, hS10⟩ := HIF.out.same HB10.out
      have HQ10 := hid hq10
      have HS10 := hid hS10
      obtain ⟨r0, r1, _, _⟩ := bk_box2 (bk_low HB610.out HP6.out)
      obtain ⟨s0, s1, _, _⟩ := bk_box2 hq10
      have HSS := hid (sameState_any F (.slice f1 g1 h1) (.slice f2 g2 h2) (.slice f5 g5 h5) (.slice f6 g6 h6) W10 _ _ (HS6.out.next HB610.out) HS10.out)
      clear hW10 hB910 hb9 hq10 hS10 HF3
      go_upto_region 16 with fail
      rw [← HWE10.out]
      go_wp2_with fail
      refine HSS.out.mono ?_
      rintro e w11 ⟨rfl, hb11⟩
      have HB811 := hid (show Below W8.heap.size W8 w11 from HB810.out.trans (hb11.mono HB810.out.size))
      have HB11 := hid (show Below wr.heap.size wr w11 from HB10.out.trans (hb11.mono HB10.out.size))
      obtain ⟨t0, t1, _, _⟩ := bk_box2 (bk_low HB811.out HP8.out)
      obtain ⟨v0, v1, _, _⟩ := bk_box2 (bk_low hb11 HQ10.out)
      have HSS2 := hid (sameState_any F (.slice f3 g3 h3) (.slice f4 g4 h4) (.slice f5 g5 h5) (.slice f6 g6 h6) w11 _ _ (HS8.out.next HB811.out) (HS10.out.next hb11))
      have HQ11 := hid (bk_low hb11 HQ10.out)
      clear hb11
      go_wp2_with fail
      refine HSS2.out.mono ?_
      rintro e w12 ⟨rfl, hb12⟩
      obtain ⟨y0, y1, _, _⟩ := bk_box2 (bk_low hb12 HQ11.out)
      obtain ⟨a', c', e'⟩ := RowM.slice HS10.out.1
      simp only [Value.slice.injEq] at e'
      obtain ⟨_, hg5, _⟩ := e'
      have n1 : (0 : Int) < (g5 : Int) := by rw [hg5]; omega
      have HE := hid (show Below w.heap.size w w12 from HB1.out.trans ((HB.out.trans ((HB11.out.trans (hb12.mono HB11.out.size)).mono HB.out.size)).mono HB1.out.size))
      clear hb12 hg5
      go_wp2
      go_ret
      exact ⟨by first | rfl | (simp; done) | (simp; omega), HE.out⟩
end Go.Proofs.YtaaenhjhjclilabDoor
