/-
  A header is what the message says, and exists just if there is one: walked.
-/
import Derived.Test.YtmnlaijggoojkaaGreatDoorAskLeaf
import Derived.Deep.RegionLaw
import Derived.Deep.RegionHeld3
import Derived.Deep.DeepCutAuto
namespace Go.Proofs.YtmnlaijggoojkaaGreatDoor
open Go.RowKit Go.Proofs

theorem one_txt {w : World} {b : Nat} {s : List UInt8} (h : w.heap[b]? = some (.cells #[.string (S s)] 9)) : TxtsM anyB w (.slice (some ⟨b, 0, none⟩) 1 1) [s] :=
  rowM_one (t := 9) (fr := (0, 0)) (cs := [.string (S s)]) h rfl trivial rfl
theorem long_one {s : List UInt8} (h : s.length ≤ 100) : longP [s] = false := by simp [longP, h]
theorem hdr_leaf {f : F} (h1 : f.1.length ≤ 100) (h2 : f.2.length ≤ 100) : LeafT ⟨6, 1, 0, [f.1], [f.2], false, 0, []⟩ := ⟨by simp, by simp, rfl, rfl, long_one h1, long_one h2, (fun h => by cases h), by simp, by simp⟩
theorem has_leaf {s : List UInt8} (h1 : s.length ≤ 100) : LeafT ⟨9, 0, 0, [s], [], false, 0, []⟩ := ⟨by simp, by simp, rfl, rfl, long_one h1, rfl, (fun h => by cases h), by simp, by simp⟩
theorem ann_leaf : LeafT ⟨7, 1, 2, [toL], [annW], false, 0, []⟩ := ⟨by simp, by simp, rfl, rfl, by decide, by decide, (fun h => by cases h), by simp, by simp⟩
/-- Asking, at a world that is reached, whatever the test. -/
def AskC (o : Opn) (w : World) : Prop := ∀ (t : Tst), LeafT t → ∀ (an ak at' : Option Addr) (cn ck ct : Nat) (u : World), Below w.heap.size w u → TxtsM anyB u (.slice an t.names.length cn) t.names → TxtsM anyB u (.slice ak t.keys.length ck) t.keys →
    Calls Tryz.prog 12 #[.agg #[.int .i64 t.kind, .int .i64 t.mat, .int .i64 t.part, .slice an t.names.length cn, .slice ak t.keys.length ck, .bool t.over, .int .i64 t.limit, .slice at' t.tests.length ct], .agg #[.string (S o.fl), .string (S o.fd), .string (S o.tl), .string (S o.td), .string (S o.tx)]] u fun e w' => e = .returned (.tuple #[.bool (tellsP o 1 t), .int .i64 0]) ∧ Below u.heap.size u w'
def hasTo (l : List F) : Bool := l.any fun f => decide (f.1 = toL) && decide (f.2 = annL)

set_option maxHeartbeats 2000000 in
set_option maxRecDepth 100000 in
theorem askHeader_walk (w : World) (hm : TabsM w) (fl fd fg tl td tg : ByteArray) (a : Option Addr) (c : Nat) (fs : List F) (body : ByteArray) (hF : FieldsAt w a fs) (hL : fs.length ≤ maxLen) (hB : ∀ f ∈ fs, f.1.length ≤ maxLen ∧ f.2.length ≤ maxLen) (hY : body.size ≤ maxLen) (s1 : fl.size ≤ maxLen) (s2 : fd.size ≤ maxLen) (s3 : tl.size ≤ maxLen) (s4 : td.size ≤ maxLen) (n : Int) (_ : (Lit.int .i64 n).wf = true) :
    Calls Tryz.prog 6 #[.agg #[.string fl, .string fd, .string fg, .string tl, .string td, .string tg, .slice a fs.length c, .string body], .int .i64 n] w fun e w' => e = .returned (.bool true) ∧ Below w.heap.size w w' := by
  have HM := hid hm
  obtain ⟨o, ho⟩ : ∃ o, o = ltrO fl fd tl td fs body := ⟨_, rfl⟩
  have HO := hid (show Opened o by rw [ho]; exact ltr_opened _ _ _ _ _ _)
  have HFS := hid (show o.fs = ltrM fs by rw [ho]; rfl)
  have HSz := hid (show ∀ f ∈ o.fs, f.1.length ≤ 100 ∧ f.2.length ≤ 100 by
    rw [HFS.out]
    intro f hf
    have := ltr_size fs f hf
    omega)
  have hfl : o.fs.length ≤ 6 := by rw [HFS.out]; exact ltr_len fs
  obtain ⟨W0, hW0⟩ : ∃ W0, W0 = w.alloc (.cells #[.string fl, .string fd, .string fg, .string tl, .string td, .string tg, .slice a fs.length c, .string body] 26) := ⟨_, rfl⟩
  have HWE := hid hW0
  have HB0 := hid (show Below w.heap.size w W0 by rw [hW0]; exact (Below.refl _ _).alloc (Nat.le_refl _) _)
  have HLt := hid (show Calls Tryz.prog 9 #[.agg #[.string fl, .string fd, .string fg, .string tl, .string td, .string tg, .slice a fs.length c, .string body]] W0 (LtrP W0 o) by
    rw [ho]
    exact letter_ok fl fd fg tl td tg a c fs body W0 (hF.below HB0.out) hL hB hY s1 s2 s3 s4 (maxLenCell_below hm.2 HB0.out))
  have HAK := hid (show AskC o w from fun t hl an ak at' cn ck ct u hu hN hK => ask_leaf o HO.out t hl an ak at' cn ck ct u (HM.out.1.next hu) (maxLenCell_below HM.out.2 hu) hN hK)
  clear hm hF hL hB hY s1 s2 s3 s4 hW0 ho
  go_enter Tryz.func6, Tryz.ntmps6
  go_wp2_with fail
  rw [← HWE.out]
  refine HLt.out.mono ?_
  rintro e w1 ⟨he, hb1⟩
  rw [show e = .returned (.tuple #[.agg #[.string (S o.fl), .string (S o.fd), .string (S o.tl), .string (S o.td), .string (S o.tx)], .bool true]) from he]
  simp only
  obtain ⟨W1, hW1⟩ : ∃ W1, W1 = w1.alloc (.cells #[.string (S o.fl), .string (S o.fd), .string (S o.tl), .string (S o.td), .string (S o.tx)] 33) := ⟨_, rfl⟩
  have HWE1 := hid hW1
  have HB1 := hid (show Below w.heap.size w W1 by
    have h := HB0.out.trans (hb1.mono HB0.out.size)
    rw [hW1]; exact h.alloc h.size _)
  have HX1 := hid (show W1.heap[w1.heap.size]? = some (.cells #[.string (S o.fl), .string (S o.fd), .string (S o.tl), .string (S o.td), .string (S o.tx)] 33) by rw [hW1]; exact tl_at _ rfl)
  have HCK := hid (show Calls Tryz.prog 15 #[.agg #[.string (S o.fl), .string (S o.fd), .string (S o.tl), .string (S o.td), .string (S o.tx)]] W1 (MsgR W1 (o.fs, o.body, 0)) by
    obtain ⟨⟨⟨k1, k2, k3, k4⟩, _⟩, k5, _⟩ := opened_ok HO.out
    have := jcheck_any (S o.fl) (S o.fd) (S o.tl) (S o.td) (S o.tx) W1 (by rw [size_S]; omega) (by rw [size_S]; omega) (by rw [size_S]; omega) (by rw [size_S]; omega) (by rw [size_S]; unfold maxLen; omega) (maxLenCell_below HM.out.2 HB1.out)
    rw [list_S, list_S, list_S, list_S, list_S, show judgeL o.fl o.fd o.tl o.td o.tx = (o.fs, o.body, 0) from HO.out] at this
    exact this)
  obtain ⟨LB, hLB⟩ : ∃ LB, LB = w1.heap.size := ⟨_, rfl⟩
  have HLB := hid hLB
  rw [← hLB] at HX1
  clear he hb1 hW1 HWE hLB
  go_wp2_with fail
  rw [← HWE1.out]
  refine HCK.out.mono ?_
  rintro e w2 ⟨fa, fc, he, hF2, hb2⟩
  rw [show e = .returned (.tuple #[.agg #[.slice fa o.fs.length fc, .string (S o.body)], .int .i64 0]) from he, ← HLB.out]
  simp only
  obtain ⟨MB, hMB⟩ : ∃ MB, MB = w2.heap.size := ⟨_, rfl⟩
  obtain ⟨W2, hW2⟩ : ∃ W2, W2 = w2.alloc (.cells #[.slice fa o.fs.length fc, .string (S o.body)] 52) := ⟨_, rfl⟩
  have HWE2 := hid hW2
  have HMB := hid hMB
  have hal : Below w2.heap.size w2 W2 := by rw [hW2]; exact (Below.refl _ _).alloc (Nat.le_refl _) _
  have HB2 := hid (show Below w.heap.size w W2 from HB1.out.trans ((hb2.trans (hal.mono hb2.size)).mono HB1.out.size))
  have HX2 := hid (tl_low hal (tl_low hb2 HX1.out))
  have HY2 := hid (show W2.heap[MB]? = some (.cells #[.slice fa o.fs.length fc, .string (S o.body)] 52) by rw [hW2, hMB]; exact tl_at _ rfl)
  have HF2 := hid (hF2.below hal)
  have hY0 := tl_cell (j := 0) HY2.out rfl
  clear he hb2 hW2 HWE1 hMB hal hF2 HX1
  go_wp2
  rw [← HWE2.out, ← HMB.out]
  clear HWE2 HMB HLB
  go_loopw [9] (fun i wr => ∃ k : Nat, k ≤ o.fs.length ∧ i = .int .i64 k ∧ wr.cell? ⟨MB, 0, none⟩ = some (.slice fa o.fs.length fc) ∧ Hid (Below W2.heap.size W2 wr)) (fun i _ => o.fs.length - (intOf i).toNat)
  case atStart => exact ⟨0, Nat.zero_le _, rfl, hY0, Below.refl _ _⟩
  case round =>
    obtain ⟨k, hk, rfl, q0, HBk⟩ := hrel
    have HBw := hid (HB2.out.trans (HBk.out.mono HB2.out.size))
    have hXk := tl_low HBk.out HX2.out
    have l0 := tl_cell (j := 0) hXk rfl
    have l1 := tl_cell (j := 1) hXk rfl
    have l2 := tl_cell (j := 2) hXk rfl
    have l3 := tl_cell (j := 3) hXk rfl
    have l4 := tl_cell (j := 4) hXk rfl
    by_cases hlt : k < o.fs.length
    · obtain ⟨f, hf⟩ : ∃ f, o.fs[k]? = some f := ⟨_, List.getElem?_eq_getElem hlt⟩
      have hfm := List.mem_of_getElem? hf
      obtain ⟨g, off, rfl, hgl, r1, r2⟩ := (HF2.out.below HBk.out) k f hf
      have hz := HSz.out f hfm
      have i1 : (k : Int) < (o.fs.length : Int) := by omega
      have i0 : (0 : Int) ≤ (k : Int) := by omega
      have HT1 := hid (tells_hdr o f hfm hz.1 hz.2)
      have HT2 := hid (tells_has o f hfm hz.1)
      have HL1 := hid (hdr_leaf hz.1 hz.2)
      have HL2 := hid (has_leaf hz.1)
      have HA1 := hid (show Calls Tryz.prog 12 #[.agg #[.int .i64 6, .int .i64 1, .int .i64 0, .slice (some ⟨wr.heap.size, 0, none⟩) 1 1, .slice (some ⟨wr.heap.size + 1, 0, none⟩) 1 1, .bool false, .int .i64 0, .slice none 0 0], .agg #[.string (S o.fl), .string (S o.fd), .string (S o.tl), .string (S o.td), .string (S o.tx)]] ((wr.alloc (.cells #[.string (S f.1)] 9)).alloc (.cells #[.string (S f.2)] 9)).drew fun e w' => e = .returned (.tuple #[.bool true, .int .i64 0]) ∧ Below ((wr.alloc (.cells #[.string (S f.1)] 9)).alloc (.cells #[.string (S f.2)] 9)).drew.heap.size ((wr.alloc (.cells #[.string (S f.1)] 9)).alloc (.cells #[.string (S f.2)] 9)).drew w' by
        rw [← HT1.out]
        exact HAK.out ⟨6, 1, 0, [f.1], [f.2], false, 0, []⟩ HL1.out _ _ _ _ _ _ _ (((HBw.out.alloc HBw.out.size _).alloc (by have := HBw.out.size; simp; omega) _).drew) (one_txt (w := ((wr.alloc (.cells #[.string (S f.1)] 9)).alloc (.cells #[.string (S f.2)] 9)).drew) (tl_old _ (tl_at _ rfl))) (one_txt (w := ((wr.alloc (.cells #[.string (S f.1)] 9)).alloc (.cells #[.string (S f.2)] 9)).drew) (tl_at (w := wr.alloc (.cells #[.string (S f.1)] 9)) _ (by simp))))
      have HA2 := hid (show Calls Tryz.prog 12 #[.agg #[.int .i64 6, .int .i64 1, .int .i64 0, .slice (some ⟨wr.heap.size + 1, 0, none⟩) 1 1, .slice (some ⟨wr.heap.size, 0, none⟩) 1 1, .bool false, .int .i64 0, .slice none 0 0], .agg #[.string (S o.fl), .string (S o.fd), .string (S o.tl), .string (S o.td), .string (S o.tx)]] ((wr.alloc (.cells #[.string (S f.2)] 9)).alloc (.cells #[.string (S f.1)] 9)).drew fun e w' => e = .returned (.tuple #[.bool true, .int .i64 0]) ∧ Below ((wr.alloc (.cells #[.string (S f.2)] 9)).alloc (.cells #[.string (S f.1)] 9)).drew.heap.size ((wr.alloc (.cells #[.string (S f.2)] 9)).alloc (.cells #[.string (S f.1)] 9)).drew w' by
        rw [← HT1.out]
        exact HAK.out ⟨6, 1, 0, [f.1], [f.2], false, 0, []⟩ HL1.out _ _ _ _ _ _ _ (((HBw.out.alloc HBw.out.size _).alloc (by have := HBw.out.size; simp; omega) _).drew) (one_txt (w := ((wr.alloc (.cells #[.string (S f.2)] 9)).alloc (.cells #[.string (S f.1)] 9)).drew) (tl_at (w := wr.alloc (.cells #[.string (S f.2)] 9)) _ (by simp))) (one_txt (w := ((wr.alloc (.cells #[.string (S f.2)] 9)).alloc (.cells #[.string (S f.1)] 9)).drew) (tl_old _ (tl_at _ rfl))))
      have q0n := cell_more q0 (.cells #[.string (S f.1)] 9)
      have q0v := cell_more q0 (.cells #[.string (S f.2)] 9)
      have r1n := cell_more r1 (.cells #[.string (S f.2)] 9)
      have r2n := cell_more r2 (.cells #[.string (S f.1)] 9)
      have l0n := cell_more l0 (.cells #[.string (S f.1)] 9)
      have l0v := cell_more l0 (.cells #[.string (S f.2)] 9)
      have l0x := cell_more l0n (.cells #[.string (S f.2)] 9)
      have l0y := cell_more l0v (.cells #[.string (S f.1)] 9)
      have l1n := cell_more l1 (.cells #[.string (S f.1)] 9)
      have l1v := cell_more l1 (.cells #[.string (S f.2)] 9)
      have l1x := cell_more l1n (.cells #[.string (S f.2)] 9)
      have l1y := cell_more l1v (.cells #[.string (S f.1)] 9)
      have l2n := cell_more l2 (.cells #[.string (S f.1)] 9)
      have l2v := cell_more l2 (.cells #[.string (S f.2)] 9)
      have l2x := cell_more l2n (.cells #[.string (S f.2)] 9)
      have l2y := cell_more l2v (.cells #[.string (S f.1)] 9)
      have l3n := cell_more l3 (.cells #[.string (S f.1)] 9)
      have l3v := cell_more l3 (.cells #[.string (S f.2)] 9)
      have l3x := cell_more l3n (.cells #[.string (S f.2)] 9)
      have l3y := cell_more l3v (.cells #[.string (S f.1)] 9)
      have l4n := cell_more l4 (.cells #[.string (S f.1)] 9)
      have l4v := cell_more l4 (.cells #[.string (S f.2)] 9)
      have l4x := cell_more l4n (.cells #[.string (S f.2)] 9)
      have l4y := cell_more l4v (.cells #[.string (S f.1)] 9)
      have HC1 := hid (show ∀ u, Below ((wr.alloc (.cells #[.string (S f.1)] 9)).alloc (.cells #[.string (S f.2)] 9)).drew.heap.size ((wr.alloc (.cells #[.string (S f.1)] 9)).alloc (.cells #[.string (S f.2)] 9)).drew u → Below wr.heap.size wr u from fun u hu => ((((Below.refl wr.heap.size wr).alloc (Nat.le_refl _) _).alloc (by simp) _).drew).trans (hu.mono (by simp; omega)))
      have HC2 := hid (show ∀ u, Below ((wr.alloc (.cells #[.string (S f.2)] 9)).alloc (.cells #[.string (S f.1)] 9)).drew.heap.size ((wr.alloc (.cells #[.string (S f.2)] 9)).alloc (.cells #[.string (S f.1)] 9)).drew u → Below wr.heap.size wr u from fun u hu => ((((Below.refl wr.heap.size wr).alloc (Nat.le_refl _) _).alloc (by simp) _).drew).trans (hu.mono (by simp; omega)))
      clear hf
      go_wp2
      go_cut [11, 12] (fun x y wx => x = .bool true ∧ y = .int .i64 0 ∧ Hid (Below wr.heap.size wr wx))
      case first =>
        go_region_held3 (fun w' => w'.cell? ⟨MB, 0, none⟩ = some (.slice (some ⟨g, off, none⟩) o.fs.length fc) ∧ w'.cell? ⟨g, off + k * 2, none⟩ = some (.string (S f.1)) ∧ w'.cell? ⟨LB, 0, none⟩ = some (.string (S o.fl)) ∧ w'.cell? ⟨LB, 1, none⟩ = some (.string (S o.fd)) ∧ w'.cell? ⟨LB, 2, none⟩ = some (.string (S o.tl)) ∧ w'.cell? ⟨LB, 3, none⟩ = some (.string (S o.td)) ∧ w'.cell? ⟨LB, 4, none⟩ = some (.string (S o.tx))) (go_keep)
          (first
            | (go_at_call 12
               with_reducible refine HA1.out.mono ?_
               rintro e w4 ⟨rfl, hb4⟩
               have HE4 := hid (HC1.out w4 hb4)
               have j0 := wcell_next q0 HE4.out
               have j1 := wcell_next r1 HE4.out
               have j2 := wcell_next l0 HE4.out
               have j3 := wcell_next l1 HE4.out
               have j4 := wcell_next l2 HE4.out
               have j5 := wcell_next l3 HE4.out
               have j6 := wcell_next l4 HE4.out)
            | (go_at_call 12
               with_reducible refine HA2.out.mono ?_
               rintro e w4 ⟨rfl, hb4⟩
               have HE4 := hid (HC2.out w4 hb4)
               have j0 := wcell_next q0 HE4.out
               have j1 := wcell_next r1 HE4.out
               have j2 := wcell_next l0 HE4.out
               have j3 := wcell_next l1 HE4.out
               have j4 := wcell_next l2 HE4.out
               have j5 := wcell_next l3 HE4.out
               have j6 := wcell_next l4 HE4.out))
        all_goals
          go_wp2_with fail
          go_meet
          exact ⟨rfl, rfl, HE4⟩
      case rest =>
        obtain ⟨rfl, rfl, HC4⟩ := hcut
        obtain ⟨wd, hwd⟩ : ∃ wd, wd = wc := ⟨_, rfl⟩
        subst hwd
        have HBc := hid (HBw.out.trans (HC4.out.mono HBw.out.size))
        have q4 := wcell_next q0 HC4.out
        have r4 := wcell_next r1 HC4.out
        have hX4 := tl_low HC4.out hXk
        have p0 := tl_cell (j := 0) hX4 rfl
        have p1 := tl_cell (j := 1) hX4 rfl
        have p2 := tl_cell (j := 2) hX4 rfl
        have p3 := tl_cell (j := 3) hX4 rfl
        have p4 := tl_cell (j := 4) hX4 rfl
        have q4n := cell_more q4 (.cells #[.string (S f.1)] 9)
        have p0n := cell_more p0 (.cells #[.string (S f.1)] 9)
        have p1n := cell_more p1 (.cells #[.string (S f.1)] 9)
        have p2n := cell_more p2 (.cells #[.string (S f.1)] 9)
        have p3n := cell_more p3 (.cells #[.string (S f.1)] 9)
        have p4n := cell_more p4 (.cells #[.string (S f.1)] 9)
        have HA3 := hid (show Calls Tryz.prog 12 #[.agg #[.int .i64 9, .int .i64 0, .int .i64 0, .slice (some ⟨wd.heap.size, 0, none⟩) 1 1, .slice none 0 0, .bool false, .int .i64 0, .slice none 0 0], .agg #[.string (S o.fl), .string (S o.fd), .string (S o.tl), .string (S o.td), .string (S o.tx)]] (wd.alloc (.cells #[.string (S f.1)] 9)).drew fun e w' => e = .returned (.tuple #[.bool true, .int .i64 0]) ∧ Below (wd.alloc (.cells #[.string (S f.1)] 9)).drew.heap.size (wd.alloc (.cells #[.string (S f.1)] 9)).drew w' by
          rw [← HT2.out]
          exact HAK.out ⟨9, 0, 0, [f.1], [], false, 0, []⟩ HL2.out _ _ _ _ _ _ _ ((HBc.out.alloc HBc.out.size _).drew) (one_txt (w := (wd.alloc (.cells #[.string (S f.1)] 9)).drew) (tl_at _ rfl)) (rowM_nil _ _ _ _ _ _))
        have HC3 := hid (show ∀ u, Below (wd.alloc (.cells #[.string (S f.1)] 9)).drew.heap.size (wd.alloc (.cells #[.string (S f.1)] 9)).drew u → Below wd.heap.size wd u from fun u hu => (((Below.refl wd.heap.size wd).alloc (Nat.le_refl _) _).drew).trans (hu.mono (by simp)))
        clear q0 q0n q0v r1n r2n l0 l1 l2 l3 l4 l0n l1n l2n l3n l4n l0v l1v l2v l3v l4v l0x l1x l2x l3x l4x l0y l1y l2y l3y l4y hX4 hXk r1 r2 HA1 HA2
        go_wp2
        go_cut [13, 14] (fun x y wx => x = .bool true ∧ y = .int .i64 0 ∧ Hid (Below wd.heap.size wd wx))
        case first =>
          go_region_held3 (fun w' => w'.cell? ⟨MB, 0, none⟩ = some (.slice (some ⟨g, off, none⟩) o.fs.length fc) ∧ w'.cell? ⟨g, off + k * 2, none⟩ = some (.string (S f.1)) ∧ w'.cell? ⟨LB, 0, none⟩ = some (.string (S o.fl)) ∧ w'.cell? ⟨LB, 1, none⟩ = some (.string (S o.fd)) ∧ w'.cell? ⟨LB, 2, none⟩ = some (.string (S o.tl)) ∧ w'.cell? ⟨LB, 3, none⟩ = some (.string (S o.td)) ∧ w'.cell? ⟨LB, 4, none⟩ = some (.string (S o.tx))) (go_keep)
            (first
              | (go_at_call 12
                 refine HA3.out.mono ?_
                 rintro e w5 ⟨rfl, hb5⟩
                 have HE5 := hid (HC3.out w5 hb5)
                 have j0 := wcell_next q4 HE5.out
                 have j1 := wcell_next r4 HE5.out
                 have j2 := wcell_next p0 HE5.out
                 have j3 := wcell_next p1 HE5.out
                 have j4 := wcell_next p2 HE5.out
                 have j5 := wcell_next p3 HE5.out
                 have j6 := wcell_next p4 HE5.out))
          all_goals
            go_wp2_with fail
            go_meet
            exact ⟨rfl, rfl, HE5⟩
        case rest =>
          obtain ⟨rfl, rfl, HC5⟩ := hcut
          have HEk := hid (HBk.out.trans ((HC4.out.trans (HC5.out.mono HC4.out.size)).mono HBk.out.size))
          have q5 := wcell_next q4 HC5.out
          clear q4n p0n p1n p2n p3n p4n p0 p1 p2 p3 p4 r4 q4
          go_wp2
          go_roundw
          case rel => exact ⟨k + 1, by omega, by go_num, q5, HEk⟩
          case measure => simp [intOf]; omega
    · have h1 := tells_none o fs HFS.out
      have HT3 := hid h1
      have HL3 := hid (has_leaf (s := noneW) (by decide))
      obtain ⟨W4, hW4⟩ : ∃ W4, W4 = wr.alloc (.cells #[.string ⟨#[110, 111, 110, 101]⟩] 9) := ⟨_, rfl⟩
      have HWE4 := hid hW4
      have HC4 := hid (show Below wr.heap.size wr W4 by rw [hW4]; exact (Below.refl _ _).alloc (Nat.le_refl _) _)
      have HN4 := hid (show W4.heap[wr.heap.size]? = some (.cells #[.string (S noneW)] 9) by rw [hW4]; exact tl_at _ rfl)
      have HA4 := hid (show Calls Tryz.prog 12 #[.agg #[.int .i64 9, .int .i64 0, .int .i64 0, .slice (some ⟨wr.heap.size, 0, none⟩) 1 1, .slice none 0 0, .bool false, .int .i64 0, .slice none 0 0], .agg #[.string (S o.fl), .string (S o.fd), .string (S o.tl), .string (S o.td), .string (S o.tx)]] W4 fun e w' => e = .returned (.tuple #[.bool false, .int .i64 0]) ∧ Below W4.heap.size W4 w' by
        have h := HAK.out ⟨9, 0, 0, [noneW], [], false, 0, []⟩ HL3.out (some ⟨wr.heap.size, 0, none⟩) none none 1 0 0 W4 (HBw.out.trans (HC4.out.mono HBw.out.size)) (one_txt HN4.out) (rowM_nil _ _ _ _ _ _)
        rw [HT3.out] at h
        exact h)
      have l0n := cell_more l0 (.cells #[.string ⟨#[110, 111, 110, 101]⟩] 9)
      have l1n := cell_more l1 (.cells #[.string ⟨#[110, 111, 110, 101]⟩] 9)
      have l2n := cell_more l2 (.cells #[.string ⟨#[110, 111, 110, 101]⟩] 9)
      have l3n := cell_more l3 (.cells #[.string ⟨#[110, 111, 110, 101]⟩] 9)
      have l4n := cell_more l4 (.cells #[.string ⟨#[110, 111, 110, 101]⟩] 9)
      clear h1 hW4
      go_wp2_with fail
      rw [← HWE4.out]
      refine HA4.out.mono ?_
      rintro e w5 ⟨rfl, hb5⟩
      simp only
      have HC5 := hid (show Below wr.heap.size wr w5 from HC4.out.trans (hb5.mono HC4.out.size))
      have HB5 := hid (HBw.out.trans (HC5.out.mono HBw.out.size))
      have q5 := wcell_next q0 HC5.out
      have hX5 := tl_low HC5.out hXk
      clear l0n l1n l2n l3n l4n l0 l1 l2 l3 l4 hb5
      obtain ⟨W6, hW6⟩ : ∃ W6, W6 = (w5.alloc (.cells #[.string ⟨#[116, 111]⟩] 9)).alloc (.cells #[.string ⟨#[97, 110, 110]⟩] 9) := ⟨_, rfl⟩
      have HWE6 := hid hW6
      have HC6 := hid (show Below w5.heap.size w5 W6 by rw [hW6]; exact ((Below.refl _ _).alloc (Nat.le_refl _) _).alloc (by simp) _)
      have HB6 := hid (HB5.out.trans (HC6.out.mono HB5.out.size))
      obtain ⟨d, hd⟩ : ∃ d, d = tellsP o 1 ⟨7, 1, 2, [toL], [annW], false, 0, []⟩ := ⟨_, rfl⟩
      have HA5 := hid (show Calls Tryz.prog 12 #[.agg #[.int .i64 7, .int .i64 1, .int .i64 2, .slice (some ⟨w5.heap.size, 0, none⟩) 1 1, .slice (some ⟨w5.heap.size + 1, 0, none⟩) 1 1, .bool false, .int .i64 0, .slice none 0 0], .agg #[.string (S o.fl), .string (S o.fd), .string (S o.tl), .string (S o.td), .string (S o.tx)]] W6 fun e w' => e = .returned (.tuple #[.bool d, .int .i64 0]) ∧ Below W6.heap.size W6 w' by
        rw [hd]
        exact HAK.out ⟨7, 1, 2, [toL], [annW], false, 0, []⟩ ann_leaf _ _ _ _ _ _ W6 HB6.out (one_txt (s := toL) (by rw [hW6]; exact tl_old _ (tl_at _ rfl))) (one_txt (s := annW) (by rw [hW6]; exact tl_at _ (by simp))))
      have HD := hid (show hasTo o.fs = true → d = true from fun h => by
        rw [hd]
        unfold hasTo at h
        rw [List.any_eq_true] at h
        obtain ⟨f, hf, hq⟩ := h
        simp only [Bool.and_eq_true, decide_eq_true_eq] at hq
        refine tells_ann o ?_
        rw [← hq.1, ← hq.2]
        exact hf)
      have hX6 := tl_low HC6.out hX5
      rw [hW6] at hX6
      have l0 := tl_cell (j := 0) hX6 rfl
      have l1 := tl_cell (j := 1) hX6 rfl
      have l2 := tl_cell (j := 2) hX6 rfl
      have l3 := tl_cell (j := 3) hX6 rfl
      have l4 := tl_cell (j := 4) hX6 rfl
      clear hX6 hX5 hXk hW6 hd
      go_wp2_with fail
      rw [← HWE6.out]
      refine HA5.out.mono ?_
      rintro e w7 ⟨rfl, hb7⟩
      simp only
      have HB7 := hid (HB6.out.trans (hb7.mono HB6.out.size))
      have q7 := wcell_next (wcell_next q5 HC6.out) hb7
      have HF7 := hid (((HF2.out.below HBk.out).below HC5.out).below (HC6.out.trans (hb7.mono HC6.out.size)))
      clear hb7 l0 l1 l2 l3 l4 q5 q0 hlt
      go_wp2
      go_loopw [19, 20] (fun v i wx => ∃ j : Nat, j ≤ o.fs.length ∧ i = .int .i64 j ∧ v = .bool (hasTo (o.fs.take j)) ∧ w7 = wx) (fun _ i _ => o.fs.length - (intOf i).toNat)
      case atStart => exact ⟨0, Nat.zero_le _, rfl, rfl, rfl⟩
      case round =>
        obtain ⟨j, hj, rfl, rfl, rfl⟩ := hrel
        by_cases hlt : j < o.fs.length
        · obtain ⟨f, hf⟩ : ∃ f, o.fs[j]? = some f := ⟨_, List.getElem?_eq_getElem hlt⟩
          obtain ⟨g, off, rfl, hgl, r1, r2⟩ := HF7.out j f hf
          have i1 : (j : Int) < (o.fs.length : Int) := by omega
          have i0 : (0 : Int) ≤ (j : Int) := by omega
          have HS := hid (show hasTo (o.fs.take (j + 1)) = (hasTo (o.fs.take j) || (decide (f.1 = toL) && decide (f.2 = annL))) by
            unfold hasTo
            rw [take_some hf, List.any_append]
            simp)
          clear hf
          cases hb : hasTo (o.fs.take j) with
          | true =>
            rw [hb] at HS
            have HS' := hid (show hasTo (o.fs.take (j + 1)) = true by rw [HS.out]; rfl)
            clear hb
            go_wp2
            go_roundw
            case rel => exact ⟨j + 1, by omega, by go_num, by rw [HS'.out], trivial⟩
            case measure => simp [intOf]; omega
          | false =>
            rw [hb] at HS
            clear hb
            by_cases h1 : f.1 = toL
            · have hq1 : ((S f.1).toList == [116, 111]) = true := by rw [Lib.toList_data, list_S, h1]; rfl
              by_cases h2 : f.2 = annL
              · have hq2 : ((S f.2).toList == [65, 110, 110, 32, 60, 97, 110, 110, 64, 120, 46, 121, 62, 44, 32, 98, 64, 99]) = true := by rw [Lib.toList_data, list_S, h2]; rfl
                have HS' := hid (show hasTo (o.fs.take (j + 1)) = true by rw [HS.out, h1, h2]; rfl)
                clear h1 h2
                go_wp2
                go_roundw
                case rel => exact ⟨j + 1, by omega, by go_num, by rw [HS'.out], trivial⟩
                case measure => simp [intOf]; omega
              · have hq2 : ((S f.2).toList == [65, 110, 110, 32, 60, 97, 110, 110, 64, 120, 46, 121, 62, 44, 32, 98, 64, 99]) = false := by rw [Lib.toList_data, list_S]; simpa [annL] using h2
                have HS' := hid (show hasTo (o.fs.take (j + 1)) = false by rw [HS.out]; simp [h2])
                clear h1 h2
                go_wp2
                go_roundw
                case rel => exact ⟨j + 1, by omega, by go_num, by rw [HS'.out], trivial⟩
                case measure => simp [intOf]; omega
            · have hq1 : ((S f.1).toList == [116, 111]) = false := by rw [Lib.toList_data, list_S]; simpa [toL] using h1
              have HS' := hid (show hasTo (o.fs.take (j + 1)) = false by rw [HS.out]; simp [h1])
              clear h1
              go_wp2
              go_roundw
              case rel => exact ⟨j + 1, by omega, by go_num, by rw [HS'.out], trivial⟩
              case measure => simp [intOf]; omega
        · have HT := hid (show o.fs.take j = o.fs from List.take_of_length_le (by omega))
          rw [HT.out]
          cases hb : hasTo o.fs with
          | true =>
            have hd : d = true := HD.out hb
            subst hd
            clear hb
            go_wp2
            go_ret
            exact ⟨rfl, HB7.out⟩
          | false =>
            clear hb
            go_wp2
            go_ret
            exact ⟨rfl, HB7.out⟩
end Go.Proofs.YtmnlaijggoojkaaGreatDoor
