/-
  Batches that the laws make of raw numbers, up to three entries each: the walk of batchesOf.
-/
import Derived.Test.YtaaenhjhjclilabDoorBkKb
namespace Go.Proofs.YtaaenhjhjclilabDoor
open Go.RowKit Go.Proofs

/-- A batch that a call has handed back, in its variable. -/
def BtB (wr : World) (x : Bat) (p : Value) (wx : World) : Prop := ∃ pn a c, p = .pointer (some ⟨pn, 0, none⟩) ∧ wx.heap[pn]? = some (.cells #[.int .i64 x.user, .slice a x.ents.length c] 34) ∧ wr.heap.size ≤ pn ∧ EntsM (fun k => wr.heap.size ≤ k) wx (.slice a x.ents.length c) x.ents ∧ Below wr.heap.size wr wx
theorem btb_call {wr u w3 : World} {x : Bat} {a : Option Addr} {c : Nat} (hu : Below wr.heap.size wr u) (hO : EntsM (fun k => u.heap.size ≤ k) w3 (.slice a x.ents.length c) x.ents) (hb : Below u.heap.size u w3) :
    BtB wr x (.pointer (some ⟨w3.heap.size, 0, none⟩)) (w3.alloc (.cells #[.int .i64 x.user, .slice a x.ents.length c] 34)) := by
  have hb' := hu.trans (hb.mono hu.size)
  have h1 := hu.size
  have h2 := hb.size
  have ha : Below w3.heap.size w3 (w3.alloc (.cells #[.int .i64 x.user, .slice a x.ents.length c] 34)) := (Below.refl _ _).alloc (Nat.le_refl _) _
  exact ⟨w3.heap.size, a, c, rfl, heap_alloc_new w3 _, by omega, (hO.next ha).imp (fun k (hk : u.heap.size ≤ k) => (by omega : wr.heap.size ≤ k)) (Keeps.refl _ _), hb'.alloc hb'.size _⟩
theorem btb_set {wr u w3 : World} {x : Bat} {a : Option Addr} {c : Nat} {v0 v1 : Value} (hu : Below wr.heap.size wr u) (hp : wr.heap.size < u.heap.size) (hO : EntsM (fun k => u.heap.size ≤ k) w3 (.slice a x.ents.length c) x.ents) (hb : Below u.heap.size u w3) (h3 : w3.heap[wr.heap.size]? = some (.cells #[v0, v1] 34)) :
    BtB wr x (.pointer (some ⟨wr.heap.size, 0, none⟩)) ((w3.setCell ⟨wr.heap.size, 0, none⟩ (.int .i64 x.user)).setCell ⟨wr.heap.size, 1, none⟩ (.slice a x.ents.length c)) := by
  have hb' := hu.trans (hb.mono hu.size)
  exact ⟨wr.heap.size, a, c, rfl, bk_put h3, Nat.le_refl _, hO.imp (fun k (hk : u.heap.size ≤ k) => (by omega : wr.heap.size ≤ k)) ⟨by simp [World.setCell], fun k _ hk => (bk_other (by omega)).trans (bk_other (by omega))⟩, (hb'.setCell (Nat.le_refl _) _).setCell (Nat.le_refl _) _⟩
theorem ChsM.sub {Q : Nat → Prop} {w : World} {b o n c : Nat} {l : List Chr} (h : ChsM Q w (.slice (some ⟨b, o, none⟩) n c) l) (i k c' : Nat) (hk : i + k ≤ l.length) : ChsM Q w (.slice (some ⟨b, o + i * 6, none⟩) k c') ((l.drop i).take k) := by
  obtain ⟨a', c'', hv, hm, hr⟩ := h
  simp only [Value.slice.injEq] at hv
  obtain ⟨rfl, _, rfl⟩ := hv
  have hl : ((l.drop i).take k).length = k := by rw [List.length_take, List.length_drop]; omega
  refine ⟨_, c', by rw [hl], by omega, fun j x hx => ?_⟩
  have hj : j < k := by have := (List.getElem?_eq_some_iff.1 hx).1; omega
  rw [List.getElem?_take_of_lt hj, List.getElem?_drop] at hx
  obtain ⟨b', o', cs, e, h1, h2, h3, h4, h5⟩ := hr (i + j) x hx
  simp only [Option.some.injEq, Addr.mk.injEq, and_true] at e
  obtain ⟨rfl, rfl⟩ := e
  refine ⟨b, o + i * 6, cs, rfl, h1, h2, h3, fun q u hq => ?_, h5⟩
  have := h4 q u hq
  rw [show o + i * 6 + j * 6 + q = o + (i + j) * 6 + q by omega]
  exact this
/-- What batchesOf hands back. -/
def BsP (w : World) (l : List Bat) (e : Ending) (w' : World) : Prop := ∃ a c, e = .returned (.slice a l.length c) ∧ l.length ≤ c ∧ BatsM (fun _ => True) w' (.slice a l.length c) l ∧ Below w.heap.size w w'
set_option maxHeartbeats 1000000 in
set_option maxRecDepth 100000 in
theorem batchesOf_any (l : List Chr) (a : Option Addr) (c : Nat) (w : World) (Q : Nat → Prop) (hL : ChsM Q w (.slice a l.length c) l) (hW : ∀ x ∈ l, chrW x) (hc : l.length ≤ c) :
    Calls Tryd.prog 5 #[.slice a l.length c] w (BsP w (batsP l)) := by
  obtain ⟨i0, hi, hz0, hz1, hz2⟩ := info_parts infoBt
  have hm := RowM.small hL
  unfold maxLen at hm
  have HL := hid hL
  have HCW := hid hW
  have HBP := hid (batsP_many l)
  obtain ⟨bs, hbs⟩ : ∃ bs, bs = batsP l := ⟨_, rfl⟩
  rw [← hbs] at HBP ⊢
  have HBS := hid hbs
  clear hL hW hbs
  go_enter Tryd.func5, Tryd.ntmps5
  go_wp2
  go_loopw [3, 4] (fun q v wr => ∃ (i f : Nat) (done : List Bat) (a9 : Option Addr) (c9 : Nat), i ≤ l.length ∧ i ≤ 26 ∧ 25 ≤ f + i ∧ done.length ≤ 24 ∧ v = .int .i64 i ∧ q = .slice a9 done.length c9 ∧ Hid (bs = done ++ batsG f i (l.drop i)) ∧ Hid (OwnBs w.heap.size (fun k => w.heap.size ≤ k) wr (.slice a9 done.length c9) done) ∧ Hid (Below w.heap.size w wr)) (fun _ v _ => l.length - (intOf v).toNat)
  case atStart => exact ⟨0, 25, [], none, 0, Nat.zero_le _, by omega, by omega, by simp, rfl, rfl, HBS, OwnBs.nil _ _ _, Below.refl _ _⟩
  case round =>
    obtain ⟨i, f, done, a9, c9, hil, hi26, hf, hdn, rfl, rfl, HD, HO, HB⟩ := hrel
    by_cases hlt : i < l.length ∧ i < 24
    · obtain ⟨hl1, hl2⟩ := hlt
      have k1 : (i : Int) < (l.length : Int) := by omega
      have k2 : (i : Int) < 24 := by omega
      have k0 : (0 : Int) ≤ (i : Int) := by omega
      obtain ⟨x, hx⟩ : ∃ x, l[i]? = some x := ⟨_, List.getElem?_eq_getElem hl1⟩
      obtain ⟨b, o, rfl, e0, e1, e2, e3, e4, e5⟩ := (HL.out.next HB.out).at hx
      have HXW := hid (HCW.out x (List.mem_of_getElem? hx))
      have hp3 := pickN_lt x.flags 3 (by decide)
      have HPK := hid (fun v => picked_any x.flags 3 v HXW.out.2.2.2.1 (by decide) (by decide))
      obtain ⟨f', rfl⟩ : ∃ f', f = f' + 1 := ⟨f - 1, by omega⟩
      obtain ⟨pk, hpk⟩ : ∃ pk, pk = pickN x.flags 3 := ⟨_, rfl⟩
      obtain ⟨n, hn⟩ : ∃ n, n = min (1 + pickN x.flags 3) (l.length - i) := ⟨_, rfl⟩
      have HST := hid (batsG_step (f := f') hx hl2 hn)
      rw [← hpk] at HPK hn hp3
      have hn1 : 1 ≤ n ∧ n ≤ 3 ∧ i + n ≤ l.length := by omega
      obtain ⟨X, hX⟩ : ∃ X, X = batP ((l.drop i).take n) x.goal := ⟨_, rfl⟩
      have HBO := hid (fun u (hu : Below wr.heap.size wr u) => batchOf_any ((l.drop i).take n) (some ⟨b, o + i * 6, none⟩) (c - i) x.goal u Q (by
        have := ((HL.out.next HB.out).next hu).sub i n (c - i) hn1.2.2
        rw [show ((l.drop i).take n).length = n by rw [List.length_take, List.length_drop]; omega]
        exact this) (fun y hy => HCW.out y (List.mem_of_mem_drop (List.mem_of_mem_take hy))) HXW.out.2.2.2.2.1)
      rw [show ((l.drop i).take n).length = n by rw [List.length_take, List.length_drop]; omega, ← hX] at HBO
      rw [← hX] at HST
      have HBA := hid (show Below wr.heap.size wr (wr.alloc (.cells #[.int .i64 0, .slice none 0 0] 34)).drew from ((Below.refl wr.heap.size wr).alloc (Nat.le_refl _) _).drew)
      have HNA := hid (show (wr.alloc (.cells #[.int .i64 0, .slice none 0 0] 34)).drew.heap[wr.heap.size]? = some (.cells #[.int .i64 0, .slice none 0 0] 34) from heap_alloc_new wr _)
      have hneb : b ≠ wr.heap.size := Nat.ne_of_lt (World.block_lt_of_cell? _ _ e0)
      clear hx hpk hX
      have HNV := hid (show min (1 + (pk : Int)) ((l.length : Int) - (i : Int)) = (n : Int) by omega)
      clear hn
      go_wp2_with fail
      refine (HPK.out _).mono ?_
      rintro e v ⟨rfl, hv⟩
      have hv' := hv.symm
      subst hv'
      clear hv
      go_upto_region 5 with fail
      rw [HNV.out]
      have m1 : (i : Int) ≤ (i : Int) + (n : Int) := by omega
      have m2 : (i : Int) + (n : Int) ≤ (c : Int) := by omega
      have m3 : IntKind.i64.wrap ((i : Int) + (n : Int)) = (i : Int) + (n : Int) := by rw [IntKind.wrap_i64]; omega
      have m6 : i ≤ ((i : Int) + (n : Int)).toNat := by omega
      have m8 : (0 : Int) ≤ (i : Int) + (n : Int) := by omega
      have m4 : ¬ c = i := by omega
      have HBO2 := hid (show ∀ u, Below wr.heap.size wr u → Calls Tryd.prog 15 #[.slice (some ⟨b, o + i * 6, none⟩) (((i : Int) + (n : Int)).toNat - i) (c - i), .int .i64 x.goal] u (BoP u X) by
        have e : ((i : Int) + (n : Int)).toNat - i = n := by omega
        rw [e]
        exact HBO.out)
      clear HBO
      go_cut [6] (fun p wx => BtB wr X p wx)
      case first =>
        go_region_held3 (fun w' => w'.cell? ⟨b, o + i * 6 + 4, none⟩ = some (.int .i64 x.goal))
          (first | (go_keep; done) | exact far2 hneb r0 | fail)
          (first
            | (go_at_call 15
               with_reducible refine (HBO2.out wr.drew ((Below.refl _ _).drew)).mono ?_
               rintro e w3 ⟨a3, c3, rfl, hO3, hb3⟩
               have hb := (Below.refl wr.heap.size wr).drew.trans hb3
               have HAR := hid (btb_call ((Below.refl wr.heap.size wr).drew) hO3 hb3)
               have r0 := wcell_next e4 hb
               clear hO3 hb3 hb)
            | (go_at_call 15
               with_reducible refine (HBO2.out ((wr.alloc (.cells #[.int .i64 0, .slice none 0 0] 34)).drew) HBA.out).mono ?_
               rintro e w3 ⟨a3, c3, rfl, hO3, hb3⟩
               have hb := HBA.out.trans (hb3.mono HBA.out.size)
               have HPe := bk_low hb3 HNA.out
               have HAR := hid (btb_set HBA.out (Array.getElem?_eq_some_iff.1 HNA.out).1 hO3 hb3 HPe)
               obtain ⟨t0', t1', f0', f1'⟩ := bk_box2 HPe
               have r0 := wcell_next e4 hb
               clear hO3 hb3 hb HPe)
            | fail)
        all_goals
          go_wp2_with fail
          go_meet
          exact HAR.out
      case rest =>
        obtain ⟨pn, a4, c4, rfl, hp, hpn, hE4, hb⟩ := hcut
        obtain ⟨y0, y1, _, _⟩ := bk_box2 hp
        have HO4 := hid (HO.out.keep hb)
        have HB4 := hid (show Below w.heap.size w wc from HB.out.trans (hb.mono HB.out.size))
        have HE4 := hid hE4
        have hws : w.heap.size ≤ wc.heap.size := HB4.out.size
        have hwr : wr.heap.size ≤ wc.heap.size := hb.size
        have hww : w.heap.size ≤ wr.heap.size := HB.out.size
        have HOW := hid (show ∀ q, (Value.slice a9 done.length c9).ownBlock = some q → q < wr.heap.size from fun q hq => by
          obtain ⟨vs', q1, q2, q3⟩ := HO.out
          exact (World.ownsRow.lt q2 q hq).2)
        obtain ⟨vs, hv1, hv2, hv3⟩ := HO4.out
        have HV1 := hid hv1
        have HV2 := hid hv2
        have HV3 := hid hv3
        have HDD := hid (show bs = (done ++ [X]) ++ batsG f' (i + n) (l.drop (i + n)) by rw [HD.out, HST.out]; simp)
        have hdl : (done ++ [X]).length = done.length + 1 := by simp
        have HDL := hid hdl
        have hd24 : done.length + 1 ≤ 24 := by
          have h1 := HBP.out
          rw [HDD.out, List.length_append, hdl] at h1
          omega
        clear hp hE4 hb hv1 hv2 hv3 hdl
        go_wp2_with (first
          | (at_builtin; refine wpList_append_lies _ rfl _ _ 23 rfl w.heap.size 34 i0 _ 2 32 Tryd.underlying23 hi hz0 hz1 hz2 rfl (by omega) (.slice a9 done.length c9) done.length ((btCs done vs).flatten) rfl (World.ownsRow.alloc HV2.out _) ⟨wc.heap.size, 0, none⟩ 1 1 [.int .i64 X.user, .slice a4 X.ents.length c4] rfl rfl (bk_two_new wc _ _ _) ?c1 (by omega) ?c2 ?c3 ?c4 _ rfl ?_)
          | fail)
        case c1 => simp [Value.oneCell']
        case c2 => unfold maxLen; omega
        case c3 => omega
        case c4 => first | omega | (simp; omega)
        intro gm cap w6 hown hgrow hat hlt6
        have hal : Below wc.heap.size wc (wc.alloc (.cells #[.int .i64 X.user, .slice a4 X.ents.length c4] 34)) := (Below.refl _ _).alloc (Nat.le_refl _) _
        have HO6 := hid (show OwnBs w.heap.size (fun k => w.heap.size ≤ k) w6 (.slice (some ⟨gm, 0, none⟩) (done ++ [X]).length cap) (done ++ [X]) by
          rw [HDL.out]
          refine OwnBs.app HV1.out rfl (fun i b u hb hu => ?_) hown hgrow (by simpa using hat) ?_
          · obtain ⟨a', c', e, h⟩ := HV3.out i b u hb hu
            exact ⟨a', c', e, h.next hal⟩
          · refine (HE4.out.next hal).imp (fun q (hq : wr.heap.size ≤ q) => ⟨fun e => ?_, ?_⟩) (Keeps.refl _ _)
            · have := HOW.out q e.symm; omega
            · omega)
        have HB6 := hid (show Below w.heap.size w w6 from (HB4.out.alloc hws _).grown hgrow (by simp; omega) (fun j hj => (World.ownsRow.lt HV2.out j hj).1))
        clear hown hgrow hat hal
        go_wp2
        go_roundw
        case rel => first | exact ⟨i + n, f', done ++ [X], _, cap, by omega, by omega, by omega, by rw [HDL.out]; exact hd24, by go_num, by rw [HDL.out], HDD, HO6, HB6⟩ | ((repeat apply Exists.intro); exact ⟨⟨i + n, f', done ++ [X], _, cap, by omega, by omega, by omega, by rw [HDL.out]; exact hd24, by go_num, by rw [HDL.out], HDD, HO6, HB6⟩, rfl⟩)
        case measure => simp [intOf]; omega
    · have HFN := hid (show bs = done by rw [HD.out, batsG_end (by omega), List.append_nil])
      have HE := hid (show BsP w bs (.returned (.slice a9 done.length c9)) wr by
        rw [HFN.out]
        obtain ⟨vs, h1, h2, h3⟩ := HO.out
        refine ⟨a9, c9, rfl, ?_, HO.out.bats (by omega), HB.out⟩
        obtain ⟨a', c', e, h4⟩ := bk_slice h2
        simp only [Value.slice.injEq] at e
        omega)
      by_cases hkl : i < l.length
      · have k1 : (i : Int) < (l.length : Int) := by omega
        have k2 : ¬ (i : Int) < 24 := by omega
        go_wp2
        go_ret
        exact HE.out
      · have k1 : ¬ (i : Int) < (l.length : Int) := by omega
        go_wp2
        go_ret
        exact HE.out
end Go.Proofs.YtaaenhjhjclilabDoor
