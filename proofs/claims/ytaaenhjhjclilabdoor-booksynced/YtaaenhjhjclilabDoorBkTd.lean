/-
  A tape with batches: the walk of the laws' taped; and where a tape lies that a call hands back.
-/
import Derived.Test.YtaaenhjhjclilabDoorBkRc
import Derived.Test.YtaaenhjhjclilabDoorBoxSg
namespace Go.Proofs.YtaaenhjhjclilabDoor
open Go.RowKit Go.Proofs

/-- A tape that a call has handed back, in its variable. -/
def TpB (wr : World) (l : List UInt8) (s er : Int) (p v : Value) (wx : World) : Prop := ∃ pn a c, p = .pointer (some ⟨pn, 0, none⟩) ∧ v = .int .i64 er ∧ wx.heap[pn]? = some (.cells #[.slice a l.length c, .int .i64 s] 40) ∧ wr.heap.size ≤ pn ∧ BysM (fun k => wr.heap.size ≤ k ∧ k ≠ pn) wx (.slice a l.length c) l ∧ Below wr.heap.size wr wx
theorem tpb_call {wr u w3 : World} {l : List UInt8} {s er : Int} {a : Option Addr} {c : Nat} (hl : l.length ≤ 1000000) (hu : Below wr.heap.size wr u) (hO : w3.ownsRow u.heap.size 5 1 (.slice a l.length c) l.length (byC l)) (hb : Below u.heap.size u w3) :
    TpB wr l s er (.pointer (some ⟨w3.heap.size, 0, none⟩)) (.int .i64 er) (w3.alloc (.cells #[.slice a l.length c, .int .i64 s] 40)) := by
  have hb' := hu.trans (hb.mono hu.size)
  have h1 := hu.size
  have h2 := hb.size
  refine ⟨w3.heap.size, a, c, rfl, rfl, heap_alloc_new w3 _, by omega, ?_, hb'.alloc hb'.size _⟩
  have hq : BysM (fun k => u.heap.size ≤ k ∧ k < w3.heap.size) w3 (.slice a l.length c) l := own_by hO rfl (by unfold maxLen; omega) fun g hg => World.ownsRow.lt hO g hg
  exact hq.imp (fun k hk => ⟨by omega, by omega⟩) fun k hk _ => Below.heap_alloc _ _ _ hk
theorem tpb_set {wr u w3 : World} {l : List UInt8} {s er : Int} {a : Option Addr} {c : Nat} {v0 v1 : Value} (hl : l.length ≤ 1000000) (hu : Below wr.heap.size wr u) (hp : wr.heap.size < u.heap.size) (hO : w3.ownsRow u.heap.size 5 1 (.slice a l.length c) l.length (byC l)) (hb : Below u.heap.size u w3) (h3 : w3.heap[wr.heap.size]? = some (.cells #[v0, v1] 40)) :
    TpB wr l s er (.pointer (some ⟨wr.heap.size, 0, none⟩)) (.int .i64 er) ((w3.setCell ⟨wr.heap.size, 0, none⟩ (.slice a l.length c)).setCell ⟨wr.heap.size, 1, none⟩ (.int .i64 s)) := by
  have hb' := hu.trans (hb.mono hu.size)
  refine ⟨wr.heap.size, a, c, rfl, rfl, bk_put h3, Nat.le_refl _, ?_, (hb'.setCell (Nat.le_refl _) _).setCell (Nat.le_refl _) _⟩
  have hq : BysM (fun k => u.heap.size ≤ k ∧ k < w3.heap.size) w3 (.slice a l.length c) l := own_by hO rfl (by unfold maxLen; omega) fun g hg => World.ownsRow.lt hO g hg
  exact hq.imp (fun k hk => ⟨by omega, by omega⟩) fun k _ hk => (bk_other (by omega)).trans (bk_other (by omega))
/-- What taped hands back. -/
def TdP (w : World) (l : List UInt8) (e : Ending) (w' : World) : Prop := ∃ a c, e = .returned (.tuple #[.agg #[.slice a l.length c, .int .i64 0], .bool true]) ∧ BysM (fun k => w.heap.size ≤ k) w' (.slice a l.length c) l ∧ Below w.heap.size w w'
/-- The tape so far, in the variable that steps on. -/
def TdI (B : Nat) (wr : World) (l : List UInt8) : Prop := ∃ a c, wr.heap[B + 1]? = some (.cells #[.slice a l.length c, .int .i64 0] 40) ∧ wr.heap[B]? = some (.cells #[.slice none 0 0, .int .i64 0] 40) ∧ BysM (fun k => B + 2 ≤ k) wr (.slice a l.length c) l
theorem tapeT_step {bs : List Bat} {k : Nat} {x : Bat} (h : bs[k]? = some x) : tapeT bs (k + 1) = tapeT bs k ++ frB x := by
  have hk : k < bs.length := (List.getElem?_eq_some_iff.1 h).1
  unfold tapeT
  rw [List.take_succ_eq_append_getElem hk, (List.getElem?_eq_some_iff.1 h).2, tapeB_app]
  simp [tapeB]
theorem tapeT_len (bs : List Bat) (k : Nat) : (tapeT bs k).length ≤ (tapeB bs).length := by
  rw [← tape_parts bs k, List.length_append]; omega
set_option maxHeartbeats 1000000 in
set_option maxRecDepth 100000 in
theorem taped_any (bs : List Bat) (ab : Option Addr) (cb : Nat) (Q : Nat → Prop) (w : World) (h : BatsM Q w (.slice ab bs.length cb) bs) (hok : ∀ b ∈ bs, BatOk b) (hl : (tapeB bs).length ≤ 100000) (hbn : bs.length ≤ 100000) :
    Calls Tryd.prog 10 #[.slice ab bs.length cb] w (TdP w (tapeB bs)) := by
  obtain ⟨W1, hW1⟩ : ∃ W1, W1 = (w.alloc (.cells #[.slice none 0 0, .int .i64 0] 40)).alloc (.cells #[.slice none 0 0, .int .i64 0] 40) := ⟨_, rfl⟩
  have HWE := hid hW1
  have hB1 : Below w.heap.size w W1 := by rw [hW1]; exact tp_low2 _ _ _
  have hN := tp_new2 w (.cells #[.slice none 0 0, .int .i64 0] 40) (.cells #[.slice none 0 0, .int .i64 0] 40)
  rw [← hW1] at hN
  have HI := hid (show TdI w.heap.size W1 (tapeT bs 0) from ⟨none, 0, hN.2, hN.1, BysM.nil _ _ _ _⟩)
  have HB1 := hid hB1
  have HBS := hid h
  have HOK := hid hok
  have HZ1 := hid (show W1.heap.size = w.heap.size + 2 by rw [hW1]; simp)
  have HTL := hid (fun k => Nat.le_trans (tapeT_len bs k) hl)
  obtain ⟨D, hD⟩ : ∃ D, D = tapeB bs := ⟨_, rfl⟩
  have HD := hid hD
  rw [← hD]
  clear h hok hW1 hB1 hN hl hD
  go_enter Tryd.func10, Tryd.ntmps10
  go_wp2
  rw [← HWE.out]
  go_loopw [5] (fun v wr => ∃ (k : Nat), k ≤ bs.length ∧ v = .int .i64 (k : Int) ∧ Hid (TdI w.heap.size wr (tapeT bs k)) ∧ Hid (Below w.heap.size w wr)) (fun v _ => bs.length - (intOf v).toNat)
  case atStart => exact ⟨0, Nat.zero_le _, rfl, HI, HB1⟩
  case round =>
    obtain ⟨k, hk, rfl, HT, HB⟩ := hrel
    obtain ⟨a, c, h1, h0, h2⟩ := HT.out
    obtain ⟨x0, x1, xf0, xf1⟩ := bk_box2 h1
    by_cases hlt : k < bs.length
    · have k1 : (k : Int) < (bs.length : Int) := by omega
      have k0 : (0 : Int) ≤ (k : Int) := by omega
      obtain ⟨x, hx⟩ : ∃ x, bs[k]? = some x := ⟨_, List.getElem?_eq_getElem hlt⟩
      obtain ⟨b, o, ae, ce, rfl, e0, e1, hE⟩ := (HBS.out.next HB.out).at hx
      have hTk := HTL.out k
      have hTk1 := HTL.out (k + 1)
      have HTS := hid (tapeT_step hx)
      rw [HTS.out] at hTk1
      have HAP := hid (fun u (hu : Below wr.heap.size wr u) => append_ok a c (tapeT bs k) 0 x ae ce _ _ u (h2.next hu) (by unfold mayN; simp; omega) (HOK.out x (List.mem_of_getElem? hx)) (hE.next hu) (by rw [List.length_append] at hTk1; exact hTk1))
      rw [← HTS.out] at HAP hTk1
      have hfp : (tapeT bs k).length < (tapeT bs (k + 1)).length := by rw [HTS.out, List.length_append, frB_len]; omega
      have HBA := hid (show Below wr.heap.size wr (wr.alloc (.cells #[.slice none 0 0, .int .i64 0] 40)).drew from ((Below.refl wr.heap.size wr).alloc (Nat.le_refl _) _).drew)
      have HNA := hid (show (wr.alloc (.cells #[.slice none 0 0, .int .i64 0] 40)).drew.heap[wr.heap.size]? = some (.cells #[.slice none 0 0, .int .i64 0] 40) from heap_alloc_new wr _)
      have hqw : w.heap.size + 1 < wr.heap.size := (Array.getElem?_eq_some_iff.1 h1).1
      have hne0 : w.heap.size + 1 ≠ wr.heap.size := by omega
      have hneb : b ≠ wr.heap.size := Nat.ne_of_lt (World.block_lt_of_cell? _ _ e0)
      have HL1 := hid (show (tapeT bs (k + 1)).length ≤ 1000000 by omega)
      clear hx h1 h0 h2 hE hTk
      go_upto_region 5 with fail
      go_cut [6, 7] (fun p v wx => TpB wr (tapeT bs (k + 1)) 0 0 p v wx)
      case first =>
        go_region_held3 (fun w' => w'.cell? ⟨w.heap.size + 1, 0, none⟩ = some (.slice a (tapeT bs k).length c) ∧ w'.cell? ⟨w.heap.size + 1, 1, none⟩ = some (.int .i64 0) ∧ w'.cell? ⟨b, o + k * 2, none⟩ = some (.int .i64 x.user) ∧ w'.cell? ⟨b, o + k * 2 + 1, none⟩ = some (.slice ae x.ents.length ce))
          (first | (go_keep; done) | exact ⟨far2 hne0 r0, far2 hne0 r1, far2 hneb r2, far2 hneb r3⟩ | fail)
          (first
            | (go_at_call 22
               with_reducible refine (HAP.out wr.drew ((Below.refl _ _).drew)).mono ?_
               rintro e w3 ⟨a3, c3, rfl, hO3, hb3⟩
               have hb := (Below.refl wr.heap.size wr).drew.trans hb3
               have HAR := hid (tpb_call (s := 0) (er := 0) HL1.out ((Below.refl wr.heap.size wr).drew) hO3 hb3)
               have r0 := wcell_next x0 hb
               have r1 := wcell_next x1 hb
               have r2 := wcell_next e0 hb
               have r3 := wcell_next e1 hb
               clear hO3 hb3 hb)
            | (go_at_call 22
               with_reducible refine (HAP.out ((wr.alloc (.cells #[.slice none 0 0, .int .i64 0] 40)).drew) HBA.out).mono ?_
               rintro e w3 ⟨a3, c3, rfl, hO3, hb3⟩
               have hb := HBA.out.trans (hb3.mono HBA.out.size)
               have HPe := bk_low hb3 HNA.out
               have HAR := hid (tpb_set (s := 0) (er := 0) HL1.out HBA.out (Array.getElem?_eq_some_iff.1 HNA.out).1 hO3 hb3 HPe)
               obtain ⟨t0', t1', f0', f1'⟩ := bk_box2 HPe
               have r0 := wcell_next x0 hb
               have r1 := wcell_next x1 hb
               have r2 := wcell_next e0 hb
               have r3 := wcell_next e1 hb
               clear hO3 hb3 hb HPe)
            | fail)
        all_goals
          go_wp2_with fail
          go_meet
          exact HAR.out
      case rest =>
        obtain ⟨pn, a4, c4, rfl, rfl, hp, hpn, hv, hb⟩ := hcut
        obtain ⟨y0, y1, _, _⟩ := bk_box2 hp
        have z0 := wcell_next x0 hb
        have z1 := wcell_next x1 hb
        obtain ⟨a, c, h1, h0, h2⟩ := HT.out
        obtain ⟨_, _, zf0, zf1⟩ := bk_box2 (bk_low hb h1)
        have k2 : ¬ (((tapeT bs (k + 1)).length : Nat) : Int) ≤ (((tapeT bs k).length : Nat) : Int) := by omega
        have HT2 := hid (show TdI w.heap.size ((wc.setCell ⟨w.heap.size + 1, 0, none⟩ (.slice a4 (tapeT bs (k + 1)).length c4)).setCell ⟨w.heap.size + 1, 1, none⟩ (.int .i64 0)) (tapeT bs (k + 1)) by
          refine ⟨a4, c4, bk_put (bk_low hb h1), (bk_other (by omega)).trans ((bk_other (by omega)).trans (bk_low hb h0)), ?_⟩
          exact hv.imp (fun k hk => by have := hk.1; omega) fun k _ hk => (bk_other (by have := hk.1; omega)).trans (bk_other (by have := hk.1; omega)))
        have HB2 := hid (show Below w.heap.size w ((wc.setCell ⟨w.heap.size + 1, 0, none⟩ (.slice a4 (tapeT bs (k + 1)).length c4)).setCell ⟨w.heap.size + 1, 1, none⟩ (.int .i64 0)) from ((HB.out.trans (hb.mono HB.out.size)).setCell (Nat.le_succ _) _).setCell (Nat.le_succ _) _)
        clear hb hp hv h1 h0 h2 x0 x1 xf0 xf1
        go_wp2
        go_roundw
        case rel => first | exact ⟨k + 1, by omega, by go_num, HT2, HB2⟩ | ((repeat apply Exists.intro); exact ⟨⟨k + 1, by omega, by go_num, HT2, HB2⟩, rfl⟩)
        case measure => simp [intOf]; omega
    · have k1 : ¬ (k : Int) < (bs.length : Int) := by omega
      have HTD := hid (show tapeT bs k = D by rw [HD.out]; unfold tapeT; rw [List.take_of_length_le (by omega)])
      rw [HTD.out] at h1 h2 x0
      obtain ⟨_, _, rf0, rf1⟩ := bk_box2 h0
      obtain ⟨s0, s1, _, _⟩ := bk_box2 (bk_put (u0 := .slice a D.length c) (u1 := .int .i64 0) h0)
      have HE := hid (show TdP w D (.returned (.tuple #[.agg #[.slice a D.length c, .int .i64 0], .bool true])) ((wr.setCell ⟨w.heap.size, 0, none⟩ (.slice a D.length c)).setCell ⟨w.heap.size, 1, none⟩ (.int .i64 0)) from
        ⟨a, c, rfl, h2.imp (fun k (hk : w.heap.size + 2 ≤ k) => (by omega : w.heap.size ≤ k)) fun k _ hk => (bk_other (by omega)).trans (bk_other (by omega)), (HB.out.setCell (Nat.le_refl _) _).setCell (Nat.le_refl _) _⟩)
      obtain ⟨_, _, _, _⟩ := bk_box2 h0
      obtain ⟨v0, v1, _, _⟩ := bk_box2 h0
      clear h1 h2 h0
      go_wp2
      refine bodyPost_ret (v := .tuple #[.agg #[.slice a D.length c, .int .i64 0], .bool true]) (by simp [results, Tryd.results10, go_sem, *]) rfl ?_
      exact HE.out
end Go.Proofs.YtaaenhjhjclilabDoor
