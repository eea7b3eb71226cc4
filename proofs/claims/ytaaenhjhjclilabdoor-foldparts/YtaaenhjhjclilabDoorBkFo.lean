/-
  Batches of a user are folded to a state: plain facts, and the walk of Fold.
-/
import Derived.Test.YtaaenhjhjclilabDoorBkAz
import Derived.Test.YtaaenhjhjclilabDoorBkBz
import Derived.Test.YtaaenhjhjclilabDoorBoxSg
namespace Go.Proofs.YtaaenhjhjclilabDoor
open Go.RowKit Go.Proofs

/- What lies in memory lies in blocks that are there. -/
theorem row_low {A : Type} {Q : Nat → Prop} {n : Nat} {P P' : A → List Value → Prop} {w : World} {v : Value} {l : List A} (h : RowM Q n P w v l) (hP : ∀ x cs, P x cs → P' x cs) : RowM (fun k => k < w.heap.size) n P' w v l := by
  obtain ⟨a, c, h1, h2, h3⟩ := h
  refine ⟨a, c, h1, h2, fun i x hx => ?_⟩
  obtain ⟨b, o, cs, e, hb, _, h4, h5, h6⟩ := h3 i x hx
  exact ⟨b, o, cs, e, hb, hb, h4, h5, hP x cs h6⟩
theorem bats_low {Q : Nat → Prop} {w : World} {v : Value} {l : List Bat} (h : BatsM Q w v l) : BatsM (fun k => k < w.heap.size) w v l := row_low h fun _ _ ⟨a, c, e, hm⟩ => ⟨a, c, e, ents_low hm⟩
theorem stt_low {Q : Nat → Prop} {w : World} {vb vs : Value} {s : Stt} (h : SttM Q w vb vs s) : SttM (fun k => k < w.heap.size) w vb vs s := ⟨row_low h.1 fun _ _ ⟨v, e, hm⟩ => ⟨v, e, row_low hm fun _ _ h => h⟩, row_low h.2.1 fun _ _ h => h, h.2.2⟩
/- P10.9. -/
theorem allM_err : ∀ {l : List Ent} {s : Stt} {z : Int}, allM s l = .error z → z ≠ 0 := by
  intro l
  induction l with
  | nil => intro s z h; cases h
  | cons x l ih =>
    intro s z h
    unfold allM at h
    split at h
    · rename_i e he; cases h; exact doM_err he
    · exact ih h
def foldS (u : Int) (s : Stt) (b : Bat) : Stt := if b.user = u then (match allM s b.ents with | .ok s' => s' | .error _ => s) else s
def foldK (u : Int) (bs : List Bat) (k : Nat) : Stt := (bs.take k).foldl (foldS u) initS
def foldM (u : Int) (bs : List Bat) : Stt := bs.foldl (foldS u) initS
theorem foldK_step {u : Int} {bs : List Bat} {k : Nat} {x : Bat} (h : bs[k]? = some x) : foldK u bs (k + 1) = foldS u (foldK u bs k) x := by
  have hk : k < bs.length := (List.getElem?_eq_some_iff.1 h).1
  unfold foldK
  rw [List.take_succ_eq_append_getElem hk, (List.getElem?_eq_some_iff.1 h).2, List.foldl_append]
  rfl
theorem foldS_may {u : Int} {s : Stt} {b : Bat} (h : May s) (hb : BatOk b) : May (foldS u s b) := by
  unfold foldS
  split
  · split
    · rename_i s' he; exact allM_may h hb.each he
    · exact h
  · exact h
theorem foldl_fmay {u : Int} : ∀ (bs : List Bat) (s : Stt), (∀ b ∈ bs, BatOk b) → May s → May (bs.foldl (foldS u) s) := by
  intro bs
  induction bs with
  | nil => intro s _ h; exact h
  | cons b bs ih => intro s hb h; exact ih _ (fun c hc => hb c (by simp [hc])) (foldS_may h (hb b (by simp)))
theorem foldK_may {u : Int} {bs : List Bat} (hb : ∀ b ∈ bs, BatOk b) (k : Nat) : May (foldK u bs k) := foldl_fmay _ _ (fun b h => hb b (List.mem_of_mem_take h)) initS_may
/-- What Fold hands back. -/
def FoP (w : World) (s : Stt) (e : Ending) (w' : World) : Prop := ∃ a1 n1 c1 a2 n2 c2, e = .returned (.tuple #[.agg #[.slice a1 n1 c1, .slice a2 n2 c2], .int .i64 0]) ∧ SttM (fun k => w.heap.size ≤ k) w' (.slice a1 n1 c1) (.slice a2 n2 c2) s ∧ Below w.heap.size w w'
/-- The state so far, in its variable. -/
def FoI (q r0 : Nat) (w wr : World) (s : Stt) : Prop := ∃ ab nb cb ae ns cs, wr.heap[q]? = some (.cells #[.slice ab nb cb, .slice ae ns cs] 29) ∧ wr.heap[r0]? = some (.cells #[.slice none 0 0, .slice none 0 0] 29) ∧ SttM (fun k => k ≠ q ∧ r0 < k) wr (.slice ab nb cb) (.slice ae ns cs) s ∧ Below w.heap.size w wr
theorem FoI.step {q r0 : Nat} {w wr wx : World} {s s' : Stt} {n1 c1 n2 c2 : Nat} {a1 a2 : Option Addr} {vm : List Value} (h : FoI q r0 w wr s) (hM : May s') (hb : Below wr.heap.size wr wx) (hO : OwnS wr.heap.size wx (.slice a1 n1 c1) (.slice a2 n2 c2) vm s') (hqr : r0 < q) (hw : w.heap.size ≤ q) :
    FoI q r0 w ((wx.setCell ⟨q, 0, none⟩ (.slice a1 n1 c1)).setCell ⟨q, 1, none⟩ (.slice a2 n2 c2)) s' := by
  obtain ⟨ab, nb, cb, ae, ns, cs, h1, h2, _, h4⟩ := h
  have hql : q < wr.heap.size := (Array.getElem?_eq_some_iff.1 h1).1
  have hS := hO.stt (Q := fun k => k ≠ q ∧ r0 < k) hM (fun g hg => by have := (hO.lt hg).1; omega)
  refine ⟨a1, n1, c1, a2, n2, c2, bk_put (bk_low hb h1), (bk_other (by omega)).trans ((bk_other (by omega)).trans (bk_low hb h2)), hS.imp (fun _ h => h) ((Keeps.set wx (p := ⟨q, 0, none⟩) _ fun b hb => hb.1).trans (Keeps.set _ (p := ⟨q, 1, none⟩) _ fun b hb => hb.1)), ?_⟩
  exact (((h4.trans (hb.mono h4.size)).setCell hw _).setCell hw _)
theorem FoI.same {q r0 : Nat} {w wr wx : World} {s : Stt} (h : FoI q r0 w wr s) (hb : Below wr.heap.size wr wx) : FoI q r0 w wx s := by
  obtain ⟨ab, nb, cb, ae, ns, cs, h1, h2, h3, h4⟩ := h
  exact ⟨ab, nb, cb, ae, ns, cs, bk_low hb h1, bk_low hb h2, h3.next hb, h4.trans (hb.mono h4.size)⟩
theorem init_far (w : World) (p q r0 : Nat) (h : w.heap[p]? = some (.cells #[.string ⟨#[73, 78, 66, 79, 88]⟩, .int .i64 1, .slice none 0 0] 56)) (hp : p ≠ q ∧ r0 < p) : SttM (fun k => k ≠ q ∧ r0 < k) w (.slice (some ⟨p, 0, none⟩) 1 1) (.slice none 0 0) initS := by
  refine ⟨⟨some ⟨p, 0, none⟩, 1, rfl, by simp [initS, maxLen], fun i y hy => ?_⟩, rowM_nil _ _ _ _ _ _, fun a n c e => by cases e; exact Nat.le_refl _⟩
  cases i with
  | succ i => simp [initS] at hy
  | zero =>
    simp [initS] at hy
    subst hy
    refine ⟨p, 0, boxC ⟨[73, 78, 66, 79, 88], 1, []⟩ (.slice none 0 0), rfl, (Array.getElem?_eq_some_iff.1 h).1, hp, rfl, fun j u hj => ?_, _, rfl, rowM_nil _ _ _ _ _ _⟩
    simp only [Nat.zero_mul, Nat.zero_add, World.cell?, h]
    simpa [boxC, S] using hj
set_option maxHeartbeats 1000000 in
set_option maxRecDepth 100000 in
theorem fold_any (bs : List Bat) (ab : Option Addr) (cb : Nat) (u : Int) (Q : Nat → Prop) (w : World) (h : BatsM Q w (.slice ab bs.length cb) bs) (hok : ∀ b ∈ bs, BatOk b) :
    Calls Tryd.prog 7 #[.slice ab bs.length cb, .int .i64 u] w (if 0 ≤ u ∧ u < 3 then FoP w (foldM u bs) else fun e w' => e = .returned (.tuple #[.agg #[.slice none 0 0, .slice none 0 0], .int .i64 6]) ∧ Below w.heap.size w w') := by
  have hm := RowM.small h
  unfold maxLen at hm
  obtain ⟨W1, hW1⟩ : ∃ W1, W1 = w.alloc (.cells #[.slice none 0 0, .slice none 0 0] 29) := ⟨_, rfl⟩
  have HWE := hid hW1
  have HB1 := hid (show Below w.heap.size w W1 by rw [hW1]; exact (Below.refl _ _).alloc (Nat.le_refl _) _)
  have hp1 : W1.heap[w.heap.size]? = some (.cells #[.slice none 0 0, .slice none 0 0] 29) := by rw [hW1]; exact heap_alloc_new w _
  have HP := hid hp1
  have HBS := hid h
  have HOK := hid hok
  obtain ⟨P, hP⟩ : ∃ P, P = (if 0 ≤ u ∧ u < 3 then FoP w (foldM u bs) else fun e w' => e = .returned (.tuple #[.agg #[.slice none 0 0, .slice none 0 0], .int .i64 6]) ∧ Below w.heap.size w w') := ⟨_, rfl⟩
  rw [← hP]
  have HPE := hid hP
  clear h hok hW1 hp1 hP
  go_enter Tryd.func7, Tryd.ntmps7
  go_wp2
  rw [← HWE.out]
  go_loopw [16] (fun v wr => ∃ (k : Nat), k ≤ bs.length ∧ v = .int .i64 (k : Int) ∧ Hid (Below W1.heap.size W1 wr)) (fun v _ => bs.length - (intOf v).toNat)
  case atStart => exact ⟨0, Nat.zero_le _, rfl, Below.refl _ _⟩
  case round =>
    obtain ⟨k, hk, rfl, HB⟩ := hrel
    by_cases hlt : k < bs.length
    · have k1 : (k : Int) < (bs.length : Int) := by omega
      have k0 : (0 : Int) ≤ (k : Int) := by omega
      obtain ⟨x, hx⟩ : ∃ x, bs[k]? = some x := ⟨_, List.getElem?_eq_getElem hlt⟩
      obtain ⟨b, o, ae, ce, rfl, e0, e1, hE⟩ := ((HBS.out.next HB1.out).next HB.out).at hx
      obtain ⟨W2, hW2⟩ : ∃ W2, W2 = wr.alloc (.cells #[.int .i64 x.user, .slice ae x.ents.length ce] 34) := ⟨_, rfl⟩
      have HWE2 := hid hW2
      have hB2 : Below wr.heap.size wr W2 := by rw [hW2]; exact (Below.refl _ _).alloc (Nat.le_refl _) _
      have hx2 : W2.heap[wr.heap.size]? = some (.cells #[.int .i64 x.user, .slice ae x.ents.length ce] 34) := by rw [hW2]; exact heap_alloc_new wr _
      obtain ⟨y0, y1, _, _⟩ := bk_box2 hx2
      have HB2 := hid (show Below W1.heap.size W1 W2 from HB.out.trans (hB2.mono HB.out.size))
      have HCK := hid (bcheck_ok x ae ce _ W2 (HOK.out x (List.mem_of_getElem? hx)) (hE.next hB2))
      clear hx hE hW2 hB2 hx2
      go_upto_region 4 with fail
      rw [← HWE2.out]
      go_wp2_with fail
      refine HCK.out.mono ?_
      rintro e w3 ⟨rfl, hb3⟩
      have HB3 := hid (show Below W1.heap.size W1 w3 from HB2.out.trans (hb3.mono HB2.out.size))
      clear hb3
      go_wp2
      go_roundw
      case rel => first | exact ⟨k + 1, by omega, by go_num, HB3⟩ | ((repeat apply Exists.intro); exact ⟨⟨k + 1, by omega, by go_num, HB3⟩, rfl⟩)
      case measure => simp [intOf]; omega
    · have k1 : ¬ (k : Int) < (bs.length : Int) := by omega
      obtain ⟨V, hV⟩ : ∃ V, V = wr := ⟨_, rfl⟩
      subst hV
      have HBV := hid (show Below w.heap.size w V from HB1.out.trans (HB.out.mono HB1.out.size))
      have hpV := bk_low HB.out HP.out
      have HPV := hid hpV
      by_cases huo : 0 ≤ u ∧ u < 3
      · have hU : (decide (0 ≤ u) && decide (u < 3)) = true := by simp [huo.1, huo.2]
        have HPF := hid (show P = FoP w (foldM u bs) by rw [HPE.out, if_pos huo])
        obtain ⟨W4, hW4⟩ : ∃ W4, W4 = (V.alloc (.cells #[.string ⟨#[73, 78, 66, 79, 88]⟩, .int .i64 1, .slice none 0 0] 56)).alloc (.cells #[.slice (some ⟨V.heap.size, 0, none⟩) 1 1, .slice none 0 0] 29) := ⟨_, rfl⟩
        have HWE4 := hid hW4
        have hB4 : Below V.heap.size V W4 := by rw [hW4]; exact tp_low2 _ _ _
        have hN4 := tp_new2 V (.cells #[.string ⟨#[73, 78, 66, 79, 88]⟩, .int .i64 1, .slice none 0 0] 56) (.cells #[.slice (some ⟨V.heap.size, 0, none⟩) 1 1, .slice none 0 0] 29)
        rw [← hW4] at hN4
        have hwV : w.heap.size < V.heap.size := (Array.getElem?_eq_some_iff.1 hpV).1
        have HI4 := hid (show FoI (V.heap.size + 1) w.heap.size w W4 (foldK u bs 0) from ⟨_, _, _, _, _, _, hN4.2, bk_low hB4 hpV, init_far W4 V.heap.size _ _ hN4.1 (by omega), HBV.out.trans (hB4.mono HBV.out.size)⟩)
        have HWV := hid hwV
        clear hW4 hB4 hN4 hpV hwV
        go_wp2_with fail
        refine (isUser_any u V).mono ?_
        rintro e v ⟨rfl, hv⟩
        have hv' := hv.symm
        subst hv'
        rw [hU]
        clear hv
        go_wp2
        rw [← HWE4.out]
        go_loopw [36] (fun v wr => ∃ (k : Nat), k ≤ bs.length ∧ v = .int .i64 (k : Int) ∧ Hid (FoI (V.heap.size + 1) w.heap.size w wr (foldK u bs k))) (fun v _ => bs.length - (intOf v).toNat)
        case atStart => exact ⟨0, Nat.zero_le _, rfl, HI4⟩
        case round =>
          obtain ⟨k, hk, rfl, HI⟩ := hrel
          obtain ⟨a1, n1, c1, a2, n2, c2, h1, h2, h3, h4⟩ := HI.out
          by_cases hlt : k < bs.length
          · have k1 : (k : Int) < (bs.length : Int) := by omega
            have k0 : (0 : Int) ≤ (k : Int) := by omega
            obtain ⟨x, hx⟩ : ∃ x, bs[k]? = some x := ⟨_, List.getElem?_eq_getElem hlt⟩
            obtain ⟨b, o, ae, ce, rfl, e0, e1, hE⟩ := (HBS.out.next h4).at hx
            have HFS := hid (foldK_step (u := u) hx)
            have hxo := HOK.out x (List.mem_of_getElem? hx)
            have HMK := hid (foldK_may (u := u) HOK.out k)
            obtain ⟨W5, hW5⟩ : ∃ W5, W5 = wr.alloc (.cells #[.int .i64 x.user, .slice ae x.ents.length ce] 34) := ⟨_, rfl⟩
            have HWE5 := hid hW5
            have hB5 : Below wr.heap.size wr W5 := by rw [hW5]; exact (Below.refl _ _).alloc (Nat.le_refl _) _
            have hx5 : W5.heap[wr.heap.size]? = some (.cells #[.int .i64 x.user, .slice ae x.ents.length ce] 34) := by rw [hW5]; exact heap_alloc_new wr _
            have HI5 := hid (HI.out.same hB5)
            obtain ⟨y0, y1, _, _⟩ := bk_box2 hx5
            obtain ⟨z0, z1, _, _⟩ := bk_box2 (bk_low hB5 h1)
            have HAL := hid (all_any (foldK u bs k) (.slice a1 n1 c1) (.slice a2 n2 c2) x.ents ae ce W5 (fun _ => True) ((h3.next hB5).imp (fun _ _ => trivial) (Keeps.refl _ _)) HMK.out ((hE.next hB5).imp (fun _ _ => trivial) (Keeps.refl _ _)) hxo.many.2 hxo.each)
            have HXE := hid hxo.each
            generalize foldK u bs k = sk at *
            clear hx hE hW5 hB5 hx5 h1 h2 h3 h4 hxo
            by_cases hu : x.user = u
            · have hub : (x.user == u) = true := by simp [hu]
              have HUU := hid hu
              clear hu
              go_upto_region 14 with fail
              rw [← HWE5.out]
              go_wp2_with fail
              refine HAL.out.mono ?_
              intro e w6 hA
              have hb6 := hA.1
              obtain ⟨b1, m1, d1, b2, m2, d2, zz, rfl, hR⟩ := hA.form
              obtain ⟨W7, hW7⟩ : ∃ W7, W7 = w6.alloc (.cells #[.slice b1 m1 d1, .slice b2 m2 d2] 29) := ⟨_, rfl⟩
              have HWE7 := hid hW7
              have hB7 : Below w6.heap.size w6 W7 := by rw [hW7]; exact (Below.refl _ _).alloc (Nat.le_refl _) _
              have hx7 : W7.heap[w6.heap.size]? = some (.cells #[.slice b1 m1 d1, .slice b2 m2 d2] 29) := by rw [hW7]; exact heap_alloc_new w6 _
              have hb57 : Below W5.heap.size W5 W7 := hb6.trans (hB7.mono hb6.size)
              have HI7 := hid (HI5.out.same hb57)
              obtain ⟨p0, p1, _, _⟩ := bk_box2 hx7
              cases hd : allM sk x.ents with
              | error er =>
                rw [hd] at hR
                have hz : zz = er := hR.1
                have hzn : ¬ zz = 0 := by rw [hz]; exact allM_err hd
                have hz' : (zz == 0) = false := by rw [beq_eq_false_iff_ne]; exact hzn
                have HI8 := hid (show FoI (V.heap.size + 1) w.heap.size w W7 (foldK u bs (k + 1)) by
                  rw [HFS.out]
                  unfold foldS
                  rw [if_pos HUU.out, hd]
                  exact HI7.out)
                clear hA hR hW7 hB7 hx7 hb57 hb6 hd
                go_upto_region 16 with fail
                rw [← HWE7.out]
                go_wp2
                go_roundw
                case rel => first | exact ⟨k + 1, by omega, by go_num, HI8⟩ | ((repeat apply Exists.intro); exact ⟨⟨k + 1, by omega, by go_num, HI8⟩, rfl⟩)
                case measure => simp [intOf]; omega
              | ok s' =>
                rw [hd] at hR
                obtain ⟨hz, vm, hO⟩ := hR
                subst hz
                have hM' : May s' := allM_may HMK.out HXE.out hd
                have hO7 : OwnS W5.heap.size W7 (.slice b1 m1 d1) (.slice b2 m2 d2) vm s' := hO.next hB7
                have HI8 := hid (show FoI (V.heap.size + 1) w.heap.size w ((W7.setCell ⟨V.heap.size + 1, 0, none⟩ (.slice b1 m1 d1)).setCell ⟨V.heap.size + 1, 1, none⟩ (.slice b2 m2 d2)) (foldK u bs (k + 1)) by
                  rw [HFS.out]
                  unfold foldS
                  rw [if_pos HUU.out, hd]
                  exact HI5.out.step hM' hb57 hO7 (by have := HWV.out; omega) (by have := HWV.out; omega))
                obtain ⟨g1, g2, g3, g4, g5, g6, gg, _⟩ := HI7.out
                obtain ⟨r0, r1, f0, f1⟩ := bk_box2 gg
                clear hA hW7 hB7 hx7 hb57 hb6 hd hO hO7 hM' gg
                go_upto_region 16 with fail
                rw [← HWE7.out]
                go_wp2
                go_roundw
                case rel => first | exact ⟨k + 1, by omega, by go_num, HI8⟩ | ((repeat apply Exists.intro); exact ⟨⟨k + 1, by omega, by go_num, HI8⟩, rfl⟩)
                case measure => simp [intOf]; omega
            · have hub : (x.user == u) = false := by rw [beq_eq_false_iff_ne]; exact hu
              have HI8 := hid (show FoI (V.heap.size + 1) w.heap.size w W5 (foldK u bs (k + 1)) by
                rw [HFS.out]
                unfold foldS
                rw [if_neg hu]
                exact HI5.out)
              go_upto_region 14 with fail
              rw [← HWE5.out]
              go_wp2
              go_roundw
              case rel => first | exact ⟨k + 1, by omega, by go_num, HI8⟩ | ((repeat apply Exists.intro); exact ⟨⟨k + 1, by omega, by go_num, HI8⟩, rfl⟩)
              case measure => simp [intOf]; omega
          · have k1 : ¬ (k : Int) < (bs.length : Int) := by omega
            have HFK := hid (show foldK u bs k = foldM u bs by unfold foldK foldM; rw [List.take_of_length_le (by omega)])
            obtain ⟨x0, x1, _, _⟩ := bk_box2 h1
            obtain ⟨y0, y1, f0, f1⟩ := bk_box2 h2
            obtain ⟨m0, m1, _, _⟩ := bk_box2 (bk_put (u0 := .slice a1 n1 c1) (u1 := .slice a2 n2 c2) h2)
            have HE := hid (show P (.returned (.tuple #[.agg #[.slice a1 n1 c1, .slice a2 n2 c2], .int .i64 0])) ((wr.setCell ⟨w.heap.size, 0, none⟩ (.slice a1 n1 c1)).setCell ⟨w.heap.size, 1, none⟩ (.slice a2 n2 c2)) by
              rw [HPF.out, ← HFK.out]
              refine ⟨a1, n1, c1, a2, n2, c2, rfl, ?_, (h4.setCell (Nat.le_refl _) _).setCell (Nat.le_refl _) _⟩
              exact h3.imp (fun k hk => by have := hk.2; omega) ⟨by simp [World.setCell], fun k _ hk => (bk_other (by have := hk.2; omega)).trans (bk_other (by have := hk.2; omega))⟩)
            clear h1 h2 h3 h4
            go_wp2
            refine bodyPost_ret (v := .tuple #[.agg #[.slice a1 n1 c1, .slice a2 n2 c2], .int .i64 0]) (by simp [results, Tryd.results7, go_sem, *]) rfl ?_
            exact HE.out
      · have hU : (decide (0 ≤ u) && decide (u < 3)) = false := by
          by_cases h : 0 ≤ u
          · have : ¬ u < 3 := fun h2 => huo ⟨h, h2⟩
            simp [this]
          · simp [h]
        obtain ⟨y0, y1, f0, f1⟩ := bk_box2 hpV
        obtain ⟨m0, m1, _, _⟩ := bk_box2 (bk_put (u0 := .slice none 0 0) (u1 := .slice none 0 0) hpV)
        have HE := hid (show P (.returned (.tuple #[.agg #[.slice none 0 0, .slice none 0 0], .int .i64 6])) ((V.setCell ⟨w.heap.size, 0, none⟩ (.slice none 0 0)).setCell ⟨w.heap.size, 1, none⟩ (.slice none 0 0)) by
          rw [HPE.out, if_neg huo]
          exact ⟨rfl, (HBV.out.setCell (Nat.le_refl _) _).setCell (Nat.le_refl _) _⟩)
        clear hpV
        go_wp2_with fail
        refine (isUser_any u V).mono ?_
        rintro e v ⟨rfl, hv⟩
        have hv' := hv.symm
        subst hv'
        rw [hU]
        clear hv
        go_wp2
        refine bodyPost_ret (v := .tuple #[.agg #[.slice none 0 0, .slice none 0 0], .int .i64 6]) (by simp [results, Tryd.results7, go_sem, *]) rfl ?_
        exact HE.out
end Go.Proofs.YtaaenhjhjclilabDoor
