/-
  The reader of a list that is one plain address: the walks.
-/
import Derived.Test.YtjdkbdkimbgbfaaGreatDoorRQScrRd117
import Derived.Deep.RegionLaw
set_option maxHeartbeats 16000000
set_option maxRecDepth 100000
namespace Go.Proofs.YtjdkbdkimbgbfaaGreatDoor
open Go.RowKit
variable {p : Addr} {l : List Tok} {s t x y : List UInt8} {cs : List Value} {b d k n : Nat} {Q : Nat -> Prop} {g g' : Option Nat} {A : Type} {c : UInt8} {v : Value} {w w' w1 : World}
def RB (w : World) (b : Nat) (s : List UInt8) : Prop := w.heap[b]? = some (.cells #[.string (S s)] 307)
theorem RB.cell {w : World} {b : Nat} {s : List UInt8} (h : RB w b s) : w.cell? ⟨b, 0, none⟩ = some (.string (S s)) := by
 unfold RB at h; simp [World.cell?, h]
theorem RB.free (h : RB w b s) : w.frozen? ⟨b, 0, none⟩ = false := by
 unfold RB at h; simp [World.frozen?, h]
theorem RB.lt (h : RB w b s) : b < w.heap.size := aG w _ h.cell
theorem RB.below (h : RB w b s) (hb : Below w.heap.size w w') : RB w' b s := (hb.block b h.lt).trans h
theorem RB.set (h : RB w b s) (t : List UInt8) : RB (w.setCell ⟨b, 0, none⟩ (.string (S t))) b t := jk _ h
structure One (s x y : List UInt8) : Prop where
 len : s.length <= 2000
 bl : qF s = s
 rx : wrun s = x
 ry : vC s = 64 :: y
 sx : wrun y = y
 sy : vC y = []
 ok : jP x y = 0
def Rd (b : Nat) (w : World) (v : Value) (r : List UInt8) (e : Ending) (w' : World) : Prop := e = .returned v /\ RB w' b r /\ But b w w'
theorem jnA (b : Nat) (c : UInt8) (t : List UInt8) (w : World) (hR : RB w b (c :: t)) :
 Calls Tryz.prog 256 #[.pointer (some ⟨b, 0, none⟩)] w (Rd b w (.int .u8 c.toNat) t) := by
 have hc := hR.cell; have hf := hR.free; have HR : Hid (RB w b (c :: t)) := hR; have he := jeW c t; have hz := jga c t; clear hR; go_enter Tryz.func256, Tryz.ntmps256; go_wp2; go_ret; refine ⟨rfl, ?_, But.set _ _⟩; rw [qe]; exact HR.out.set _
theorem jqi (b : Nat) (c : UInt8) (t : List UInt8) (w : World) (hR : RB w b (c :: t)) :
 Calls Tryz.prog 233 #[.pointer (some ⟨b, 0, none⟩), .int .u8 c.toNat] w (Rd b w (.tuple #[]) t) := by
 have HR : Hid (RB w b (c :: t)) := hR; clear hR; go_enter Tryz.func233, Tryz.ntmps233; go_wp2_with fail; refine (jnA b c t _ HR.out).mono ?_; rintro e u ⟨rfl, cA, hB⟩; go_wp2; go_end0; exact ⟨rfl, cA, hB⟩
theorem jdt (b : Nat) (s : List UInt8) (w : World) (hR : RB w b s) :
 Calls Tryz.prog 252 #[.pointer (some ⟨b, 0, none⟩)] w (Rd b w (.tuple #[]) (qF s)) := by
 have hc := hR.cell; have HR : Hid (RB w b s) := hR; have HT : Hid ((⟨(Lib.trimLeftS (S s).data.toList [32, 9]).toArray⟩ : ByteArray) = S (qF s)) := by
  unfold Hid Lib.trimLeftS qF; rw [ji]
  show S _ = S _
  congr 1
  congr 1
  funext c
  simp [zo, Bool.beq_eq_decide_eq]
 clear hR; go_enter Tryz.func252, Tryz.ntmps252; go_wp2_with fail; refine (trimLeft_any (S s) _).mono ?_; rintro e u ⟨rfl, hb⟩; rw [HT.out]; have hc2 := (HR.out.below hb).cell; have hf2 := (HR.out.below hb).free; go_wp2; go_end0; exact ⟨rfl, (HR.out.below hb).set _, (But.of hb).trans (But.set _ _)⟩
theorem jid (h : runB c = true) : wrun (c :: t) = c :: wrun t := by unfold wrun; rw [List.takeWhile_cons, if_pos h]
theorem jqm (h : runB c = false) : wrun (c :: t) = [] := by unfold wrun; rw [List.takeWhile_cons, h]; rfl
theorem joU (h : c ≠ 46) : runB c = qy c := by unfold runB; simp [h]
theorem jbx (s : ByteArray) (w : World) (hs : s.size <= maxLen) :
 Calls Tryz.prog 263 #[.string s] w fun e w' => e = .returned (.int .i64 ((wrun s.data.toList).length : Nat)) /\ w' = w := by
 unfold maxLen at hs; go_enter Tryz.func263, Tryz.ntmps263; go_wp2
 go_loopw [3] (fun i wr => ∃ k : Nat, k <= s.size /\ i = .int .i64 k /\ Hid ((wrun s.data.toList).length = k + (wrun (s.data.toList.drop k)).length) /\ wr = w) (fun i _ => s.size - (intOf i).toNat)
 case atStart => exact ⟨0, aQ _, rfl, by unfold Hid; simp, rfl⟩
 case round =>
  obtain ⟨k, hk, rfl, HT, rfl⟩ := hrel
  by_cases hlt : k < s.size
  . have eS : s.data.toList.drop k = s[k] :: s.data.toList.drop (k + 1) := by
        rw [aT (by rw [size_list]; exact hlt)]; rfl
    by_cases hd : s[k] = 46
    . have CR : (s[k].toNat : Int) = 46 := by rw [hd]; rfl
      have HN : Hid ((wrun s.data.toList).length = (k + 1) + (wrun (s.data.toList.drop (k + 1))).length) := by
       unfold Hid; rw [HT.out, eS, jid (by rw [hd]; decide)]; simp; omega
      clear eS hd; go_wp2
      go_roundw
      case rel => first | exact ⟨k + 1, by omega, by go_num, HN, by first | rfl | trivial⟩ | ((repeat apply Exists.intro); exact ⟨⟨k + 1, by omega, by go_num, HN, by first | rfl | trivial⟩, rfl⟩) | (refine ⟨trivial, ?_⟩; (repeat apply Exists.intro); exact ⟨⟨k + 1, by omega, by go_num, HN, by first | rfl | trivial⟩, rfl⟩)
      case measure => simp [intOf]; omega
    . have CR : ¬ (s[k].toNat : Int) = 46 := fun h => hd (UInt8.toNat_inj.1 (by show s[k].toNat = 46; omega))
      cases ha : qy s[k] with
      | true =>
        have HN : Hid ((wrun s.data.toList).length = (k + 1) + (wrun (s.data.toList.drop (k + 1))).length) := by
            unfold Hid; rw [HT.out, eS, jid (by rw [joU hd]; exact ha)]; simp; omega
        have HA : Hid _ := ha; clear ha eS hd; go_wp2_with fail; refine (jaK s[k] _).mono ?_; rintro e u ⟨rfl, hu⟩; have b6 := hu.symm; subst b6; rw [HA.out]; go_wp2
        go_roundw
        case rel => first | exact ⟨k + 1, by omega, by go_num, HN, by first | rfl | trivial⟩ | ((repeat apply Exists.intro); exact ⟨⟨k + 1, by omega, by go_num, HN, by first | rfl | trivial⟩, rfl⟩) | (refine ⟨trivial, ?_⟩; (repeat apply Exists.intro); exact ⟨⟨k + 1, by omega, by go_num, HN, by first | rfl | trivial⟩, rfl⟩)
        case measure => simp [intOf]; omega
      | false =>
        have HN : Hid ((wrun s.data.toList).length = k) := by
            unfold Hid; rw [HT.out, eS, jqm (by rw [joU hd]; exact ha)]; rfl
        have HA : Hid _ := ha; clear ha eS hd; go_wp2_with fail; refine (jaK s[k] _).mono ?_; rintro e u ⟨rfl, hu⟩; have b6 := hu.symm; subst b6; rw [HA.out]; go_wp2; go_ret; exact ⟨jd (by rw [HN.out]), rfl⟩
  . have HN : Hid ((wrun s.data.toList).length = k) := by
        unfold Hid; rw [HT.out, List.drop_of_length_le (by rw [size_list]; omega)]; rfl
    go_wp2; go_ret; exact ⟨jd (by rw [HN.out]), rfl⟩
theorem jmb (s : List UInt8) : s.take (wrun s).length = wrun s := by
 conv => lhs; arg 2; rw [<- jc5 s]
 rw [List.take_left]
theorem jfb (s : List UInt8) : s.drop (wrun s).length = vC s := by
 conv => lhs; arg 2; rw [<- jc5 s]
 rw [List.drop_left]
theorem jeR (s : List UInt8) : (wrun s).length <= s.length := by
 have := congrArg List.length (jc5 s)
 simp at this; omega
theorem jlX (b : Nat) (s : List UInt8) (w : World) (hR : RB w b s) (hs : s.length <= 1048576) :
 Calls Tryz.prog 264 #[.pointer (some ⟨b, 0, none⟩)] w (Rd b w (.string (S (wrun s))) (vC s)) := by
 have hc := hR.cell; have hf := hR.free; have HR : Hid (RB w b s) := hR; clear hR; obtain ⟨n, hn⟩ : ∃ n, n = (wrun s).length := ⟨_, rfl⟩; have kx : n <= (S s).size := by rw [hn, jb]; exact jeR s
 have i1 : (0 : Int) <= (n : Int) := by omega
 have i2 : (n : Int) <= ((S s).size : Int) := by omega
 have HZ : Hid ((S s).size <= maxLen) := by unfold Hid maxLen; rw [jb]; omega
 have HN : Hid ((wrun (S s).data.toList).length = n) := by unfold Hid; rw [ji, hn]
 have HT : Hid ((S s).extract 0 n = S (wrun s)) := by unfold Hid; rw [jdp, hn, jmb]
 have HD : Hid ((S s).extract n (S s).size = S (vC s)) := by unfold Hid; rw [qe, hn, jfb]
 clear hn hs; go_enter Tryz.func264, Tryz.ntmps264; go_wp2_with fail; refine (jbx (S s) _ HZ.out).mono ?_; rintro e u ⟨rfl, hu⟩; have b6 := hu.symm; subst b6; rw [HN.out]; go_wp2; go_ret; refine ⟨?_, ?_, But.set _ _⟩
 . rw [<- HT.out]; rfl
 . rw [HD.out]; exact HR.out.set _
theorem jij (b : Nat) (s y : List UInt8) (w : World) (hR : RB w b s) (hs : s.length <= 1048576) (hy : vC s = 64 :: y) :
 Calls Tryz.prog 253 #[.pointer (some ⟨b, 0, none⟩)] w (Rd b w (.bool true) s) := by
 have hc := hR.cell; have HR : Hid (RB w b s) := hR; clear hR; obtain ⟨n, hn⟩ : ∃ n, n = (wrun s).length := ⟨_, rfl⟩; have kx : n <= (S s).size := by rw [hn, jb]; exact jeR s
 have i1 : (0 : Int) <= (n : Int) := by omega
 have i2 : (n : Int) <= ((S s).size : Int) := by omega
 have HZ : Hid ((S s).size <= maxLen) := by unfold Hid maxLen; rw [jb]; omega
 have HN : Hid ((wrun (S s).data.toList).length = n) := by unfold Hid; rw [ji, hn]
 have HP : Hid (Lib.hasPrefix ((S s).extract n (S s).size).data.toList (⟨#[64]⟩ : ByteArray).data.toList = true) := by
  unfold Hid; rw [qe, hn, jfb, ji, hy]; rfl
 clear hn hs kx hy; go_enter Tryz.func253, Tryz.ntmps253; go_wp2
 go_region_held3 (fun w' => w'.cell? ⟨b, 0, none⟩ = some (.string (S s))) (go_keep)
  (first
    | (go_at_call 263
       refine (jbx (S s) _ HZ.out).mono ?_; rintro e u ⟨rfl, hu⟩; have b6 := hu.symm; subst b6; rw [HN.out])
    | (go_at_call 107
       refine (hasPrefix_any _ ⟨#[64]⟩ _).mono ?_; rintro e u2 ⟨rfl, lU⟩; have fj := lU.symm; subst fj; rw [HP.out]))
 go_wp2; go_ret; have hd : Below w.heap.size w w.drew := (ay _ _).drew; exact ⟨rfl, HR.out.below hd, But.of hd⟩
theorem But.far (h : But b w w1) (hp : w.heap.size <= p.block) (v : Value) : But b w (w1.setCell p v) :=
 ⟨h.os, h.tape, h.output, by simpa [World.setCell] using h.size, fun k hk hn => (aC _ _ _ _ (by omega)).trans (h.block k hk hn)⟩
theorem But.more (h : But b w w1) (o : Obj) : But b w (w1.alloc o) :=
 h.trans (But.of ((ay _ _).alloc (ai _) o))
theorem RB.far (h : RB w b s) (hn : b ≠ p.block) (v : Value) : RB (w.setCell p v) b s :=
 (aC _ _ _ _ hn).trans h
theorem RB.more (h : RB w b s) (o : Obj) : RB (w.alloc o) b s := h.below ((ay _ _).alloc (ai _) o)
def Two (w : World) (b : Nat) (x y : List UInt8) : Prop := w.heap[b]? = some (.cells #[.string (S x), .string (S y)] 73)
theorem Two.c0 (h : Two w b x y) : w.cell? ⟨b, 0, none⟩ = some (.string (S x)) := by unfold Two at h; simp [World.cell?, h]
theorem Two.c1 (h : Two w b x y) : w.cell? ⟨b, 1, none⟩ = some (.string (S y)) := by unfold Two at h; simp [World.cell?, h]
theorem Two.free (h : Two w b x y) (o : Nat) : w.frozen? ⟨b, o, none⟩ = false := by unfold Two at h; simp [World.frozen?, h]
theorem Two.lt (h : Two w b x y) : b < w.heap.size := aG w _ h.c0
theorem Two.set0 (h : Two w b x y) (z : List UInt8) : Two (w.setCell ⟨b, 0, none⟩ (.string (S z))) b z y := jk _ h
theorem Two.set1 (h : Two w b x y) (z : List UInt8) : Two (w.setCell ⟨b, 1, none⟩ (.string (S z))) b x z := jk _ h
theorem Two.far (h : Two w b x y) (hn : b ≠ p.block) (v : Value) : Two (w.setCell p v) b x y := (aC _ _ _ _ hn).trans h
theorem Two.but {r : Nat} (h : Two w b x y) (hb : But r w w') (hn : b ≠ r) : Two w' b x y := (hb.block b h.lt hn).trans h
theorem Two.below (h : Two w b x y) (hb : Below w.heap.size w w') : Two w' b x y := (hb.block b h.lt).trans h
theorem jeM (w : World) : Two (w.alloc (.cells #[.string ⟨#[]⟩, .string ⟨#[]⟩] 73)) w.heap.size [] [] := by
 unfold Two
 show (w.heap.push _)[w.heap.size]? = _
 rw [Array.getElem?_push_size]; rfl
def adrV (a : Adr) : Value := .agg #[.string (S a.1), .string (S a.2)]
theorem jlx (b : Nat) (s x y : List UInt8) (w : World) (hR : RB w b s) (hO : One s x y) :
 Calls Tryz.prog 254 #[.pointer (some ⟨b, 0, none⟩)] w (Rd b w (adrV (x, y)) []) := by
 have pI := hR.lt; have dz : b ≠ w.heap.size := by omega
 have gy : b ≠ w.heap.size + 1 := by omega
 obtain ⟨W0, hW0⟩ : ∃ W0, W0 = (w.alloc (.cells #[.string ⟨#[]⟩, .string ⟨#[]⟩] 73)).alloc (.cells #[.string ⟨#[]⟩, .string ⟨#[]⟩] 73) := ⟨_, rfl⟩; have fo : Hid (Two W0 w.heap.size [] []) := by rw [hW0]; exact (jeM w).below (nb0 _ _)
 have eW : Hid (Two W0 (w.heap.size + 1) [] []) := by rw [hW0]; show Two _ _ _ _; have := jeM (w.alloc (.cells #[.string ⟨#[]⟩, .string ⟨#[]⟩] 73)); simpa using this
 have dj : Hid (RB W0 b s) := by rw [hW0]; exact (hR.more _).more _
 have cj : Hid (But b w W0) := by rw [hW0]; exact ((But.refl b w).more _).more _
 have HW : Hid _ := hW0; have hl := hO.len; have wh := jmt s; have hlx := jeR s; have HS := hid (show s.length <= 1048576 by omega); have HY := hid (show y.length <= 1048576 by rw [hO.ry] at wh; simp at wh; omega); have iD := hid (show (S x).size <= 140737488355328 by rw [jb, <- hO.rx]; omega); have eI := hid (show (S y).size <= 140737488355328 by rw [jb]; have := HY.out; omega); have iV := hid (fun u (h : RB u b s) => show Calls Tryz.prog 264 #[.pointer (some ⟨b, 0, none⟩)] u (Rd b u (.string (S x)) (64 :: y)) from by
  have := jlX b s u h HS.out; rw [hO.rx, hO.ry] at this; exact this)
 have tK := hid (fun u (h : RB u b y) => show Calls Tryz.prog 264 #[.pointer (some ⟨b, 0, none⟩)] u (Rd b u (.string (S y)) []) from by
  have := jlX b y u h HY.out; rw [hO.sx, hO.sy] at this; exact this)
 have gU := hid hO.ok; clear hW0 hR hO hl wh hlx; go_enter Tryz.func254, Tryz.ntmps254; go_wp2_with fail; rw [<- HW.out]; refine (iV.out _ dj.out).mono ?_; rintro e w1 ⟨rfl, cz, b8⟩; have sh : Two w1 (w.heap.size + 1) [] [] := eW.out.but b8 gy.symm; have ca := sh.c0; have fa := sh.free 0; have Bv : Hid (Two (w1.setCell ⟨w.heap.size + 1, 0, none⟩ (.string (S x))) (w.heap.size + 1) x []) := sh.set0 _; have Bm : Hid (RB (w1.setCell ⟨w.heap.size + 1, 0, none⟩ (.string (S x))) b (64 :: y)) := cz.far gy _; have fP : Hid (But b w (w1.setCell ⟨w.heap.size + 1, 0, none⟩ (.string (S x)))) := (cj.out.trans b8).far (by simp) _; have Bw : Hid (Two (w1.setCell ⟨w.heap.size + 1, 0, none⟩ (.string (S x))) w.heap.size [] []) := (fo.out.but b8 dz.symm).far (by simp) _; clear sh cz b8; go_wp2_with fail; refine (jqi b 64 y _ Bm.out).mono ?_; rintro e w2 ⟨rfl, cA, b7⟩; have fx := hid (Two.but Bv.out b7 gy.symm); have tQ := hid (Two.but Bw.out b7 dz.symm); have sS := hid (fP.out.trans b7); clear b7 ca fa; go_wp2_with fail; refine (tK.out _ cA).mono ?_; rintro e w3 ⟨rfl, cB, cy⟩; have ee : Two w3 (w.heap.size + 1) x [] := Two.but fx.out cy gy.symm; have c3 := ee.c1; have c3' := ee.c0; have f3 := ee.free 1; have gX := hid (ee.set1 y); have tR : Hid (Two (w3.setCell ⟨w.heap.size + 1, 1, none⟩ (.string (S y))) w.heap.size [] []) := (Two.but tQ.out cy dz.symm).far (by simp) _; have dm : Hid (RB (w3.setCell ⟨w.heap.size + 1, 1, none⟩ (.string (S y))) b []) := cB.far gy _; have ch : Hid (But b w (w3.setCell ⟨w.heap.size + 1, 1, none⟩ (.string (S y)))) := (sS.out.trans cy).far (by simp) _; clear ee cB cy cA; go_wp2_with fail; refine (zM (S x) (S y) _ iD.out eI.out).mono ?_; rintro e w5 ⟨rfl, cV⟩; rw [ji, ji, gU.out]; have hJ := Two.below gX.out cV; have ia := Two.below tR.out cV; have dL := RB.below dm.out cV; have dx := But.trans ch.out (But.of cV); have d0 := hJ.c0; have d1 := hJ.c1; have e0 := ia.c0; have e1 := ia.c1; have g0 := ia.free 0; have g1 := ia.free 1; have uE := (ia.set0 x).set1 y; have tI := hid ((dL.far (p := ⟨w.heap.size, 0, none⟩) dz (.string (S x))).far (p := ⟨w.heap.size, 1, none⟩) dz (.string (S y))); have dX := hid ((dx.far (p := ⟨w.heap.size, 0, none⟩) (ai _) (.string (S x))).far (p := ⟨w.heap.size, 1, none⟩) (ai _) (.string (S y))); have HK := hid (And.intro uE.c0 uE.c1); clear uE hJ ia dL dx c3 c3' f3; go_wp2; refine aD (v := .agg #[.string (S x), .string (S y)]) (by simp [results, Tryz.results254, go_sem, HK.out.1, HK.out.2]) rfl ?_; exact ⟨rfl, tI.out, dX.out⟩
theorem jnR (b : Nat) (s x y : List UInt8) (w : World) (hR : RB w b s) (hO : One s x y) :
 Calls Tryz.prog 232 #[.pointer (some ⟨b, 0, none⟩)] w (Rd b w (adrV (x, y)) []) := by
 have pI := hR.lt; have dz : b ≠ w.heap.size := by omega
 obtain ⟨W0, hW0⟩ : ∃ W0, W0 = w.alloc (.cells #[.string ⟨#[]⟩, .string ⟨#[]⟩] 73) := ⟨_, rfl⟩; have rM : Hid (Two W0 w.heap.size [] []) := by rw [hW0]; exact jeM w
 have dj : Hid (RB W0 b s) := by rw [hW0]; exact hR.more _
 have cj : Hid (But b w W0) := by rw [hW0]; exact (But.refl b w).more _
 have HW : Hid _ := hW0; have HO := hid hO; have fv := hid (fun u (h : RB u b s) => show Calls Tryz.prog 252 #[.pointer (some ⟨b, 0, none⟩)] u (Rd b u (.tuple #[]) s) from by
  have := jdt b s u h; rw [hO.bl] at this; exact this)
 have sO := hid (fun u (h : RB u b s) => jij b s y u h (by have := hO.len; omega) hO.ry); clear hW0 hR hO; go_enter Tryz.func232, Tryz.ntmps232; go_wp2_with fail; rw [<- HW.out]; refine (fv.out _ dj.out).mono ?_; rintro e w1 ⟨rfl, cz, b8⟩; have wC : w.heap.size < w1.heap.size := by
  have h1 := rM.out.lt; have h2 := b8.size; omega
 have pU : b ≠ w1.heap.size := by omega
 have yK : w.heap.size ≠ w1.heap.size := by omega
 have Ab : w.heap.size <= w1.heap.size := by omega
 obtain ⟨W1, hW1⟩ : ∃ W1, W1 = w1.alloc (.cells #[.string ⟨#[]⟩, .string ⟨#[]⟩] 73) := ⟨_, rfl⟩; have eW : Hid (Two W1 w1.heap.size [] []) := by rw [hW1]; exact jeM w1
 have rN : Hid (Two W1 w.heap.size [] []) := by rw [hW1]; exact (rM.out.but b8 dz.symm).below (nb0 _ _)
 have cC : Hid (RB W1 b s) := by rw [hW1]; exact cz.more _
 have bX : Hid (But b w W1) := by rw [hW1]; exact (cj.out.trans b8).more _
 have cO : Hid _ := hW1; clear hW1 cz b8; go_wp2_with fail; rw [<- cO.out]; refine (sO.out _ cC.out).mono ?_; rintro e w2 ⟨rfl, cA, b7⟩; have fx : Hid (Two w2 w1.heap.size [] []) := eW.out.but b7 pU.symm; have dN : Hid (Two w2 w.heap.size [] []) := rN.out.but b7 dz.symm; have cD : Hid (RB w2 b s) := cA; have bY : Hid (But b w w2) := bX.out.trans b7; clear cA b7; go_wp2_with fail; refine (jlx b s x y _ cD.out HO.out).mono ?_; rintro e W3 ⟨rfl, cB, lD⟩; have ee : Two W3 w1.heap.size [] [] := fx.out.but lD pU.symm; have ya : Two W3 w.heap.size [] [] := dN.out.but lD dz.symm; have cy : But b w W3 := bY.out.trans lD; clear lD; rw [adrV]; simp only; have q0 := ee.c0; have q1 := ee.c1; have z0 := ee.free 0; have z1 := ee.free 1; have gX : Hid (Two ((W3.setCell ⟨w1.heap.size, 0, none⟩ (.string (S x))).setCell ⟨w1.heap.size, 1, none⟩ (.string (S y))) w1.heap.size x y) := (ee.set0 x).set1 y; have l8 : Hid (Two ((W3.setCell ⟨w1.heap.size, 0, none⟩ (.string (S x))).setCell ⟨w1.heap.size, 1, none⟩ (.string (S y))) w.heap.size [] []) := (ya.far yK _).far yK _; have dm : Hid (RB ((W3.setCell ⟨w1.heap.size, 0, none⟩ (.string (S x))).setCell ⟨w1.heap.size, 1, none⟩ (.string (S y))) b []) := (cB.far pU _).far pU _; have ch : Hid (But b w ((W3.setCell ⟨w1.heap.size, 0, none⟩ (.string (S x))).setCell ⟨w1.heap.size, 1, none⟩ (.string (S y)))) := (cy.far Ab _).far Ab _; clear ee ya cB cy; go_wp2_with fail; refine (jdt b [] _ dm.out).mono ?_; rintro e w5 ⟨rfl, dL, dx⟩; have hJ := Two.but gX.out dx pU.symm; have kb := Two.but l8.out dx dz.symm; have cQ : But b w w5 := But.trans ch.out dx; have d0 := hJ.c0; have d1 := hJ.c1; have e0 := kb.c0; have e1 := kb.c1; have g0 := kb.free 0; have g1 := kb.free 1; have uu := (kb.set0 x).set1 y; have tI : Hid (RB ((w5.setCell ⟨w.heap.size, 0, none⟩ (.string (S x))).setCell ⟨w.heap.size, 1, none⟩ (.string (S y))) b []) := (dL.far dz _).far dz _; have dX : Hid (But b w ((w5.setCell ⟨w.heap.size, 0, none⟩ (.string (S x))).setCell ⟨w.heap.size, 1, none⟩ (.string (S y)))) := (cQ.far (ai _) _).far (ai _) _; have HK := hid (And.intro uu.c0 uu.c1); clear uu hJ kb dL dx cQ q0 q1 z0 z1; go_wp2; refine aD (v := .agg #[.string (S x), .string (S y)]) (by simp [results, Tryz.results232, go_sem, HK.out.1, HK.out.2]) rfl ?_; exact ⟨rfl, tI.out, dX.out⟩
theorem jpC : (Tryz.prog.info? 73).map (fun i => (i.zero, i.size, i.bytes)) = some (some (.agg #[.string ByteArray.empty, .string ByteArray.empty]), 2, 32) := by kernel_rfl
theorem jnJ (w : World) (x y : Value) (t : TypeId) : ∀ (j : Nat) u, [x, y][j]? = some u -> (w.alloc (.cells #[x, y] t)).cell? ((⟨w.heap.size, 0, none⟩ : Addr).add j) = some u := by
 intro j u hj; rw [bg, bc]
 match j, hj with
 | 0, hj => simp at hj; subst hj; simp
 | 1, hj => simp at hj; subst hj; simp
theorem jq6 (w : World) (s : List UInt8) : RB (w.alloc (.cells #[.string (S s)] 307)) w.heap.size s := by
 unfold RB
 show (w.heap.push _)[w.heap.size]? = _
 rw [Array.getElem?_push_size]
theorem jfG (s x y : List UInt8) (w : World) (hO : One s x y) :
 Calls Tryz.prog 205 #[.string (S s)] w fun e w' => (∃ g c, e = .returned (.slice (some ⟨g, 0, none⟩) 1 c)) /\ Below w.heap.size w w' := by
 obtain ⟨i0, hi, hz0, hz1, hz2⟩ := info_parts jpC; obtain ⟨W0, hW0⟩ : ∃ W0, W0 = w.alloc (.cells #[.string (S s)] 307) := ⟨_, rfl⟩; have dj : Hid (RB W0 w.heap.size s) := by rw [hW0]; exact jq6 w s
 have cj : Hid (Below w.heap.size w W0) := by rw [hW0]; exact nb0 _ _
 have hz : w.heap.size + 1 <= W0.heap.size := by rw [hW0]; simp
 have HW : Hid _ := hW0; have HO := hid hO; clear hW0 hO; go_enter Tryz.func205, Tryz.ntmps205; go_wp2; rw [<- HW.out]
 go_loopw [4] (fun v wr => v = .slice none 0 0 /\ wr = W0) (fun _ _ => 0)
 case atStart => exact ⟨rfl, rfl⟩
 case round =>
  obtain ⟨rfl, rfl⟩ := hrel; go_wp2_with fail; refine (jnR w.heap.size s x y _ dj.out HO.out).mono ?_; rintro e w1 ⟨rfl, cz, hB⟩; rw [adrV]; simp only; have lY : w.heap.size + 1 <= w1.heap.size := aN hz hB.size; have bX := hid (cj.out.trans (hB.below (ai _) (by omega))); have cC := hid cz; clear cz hB
  go_wp2_with (at_builtin; refine wpList_append_own _ rfl _ _ 74 rfl (w.heap.size + 1) 73 i0 _ 2 32 Tryz.underlying74 hi hz0 hz1 hz2 rfl (by decide) (.slice none 0 0) 0 [] rfl (aR _ _ _ _) ⟨w1.heap.size, 0, none⟩ 1 1 [.string (S x), .string (S y)] rfl rfl (jnJ _ _ _ _) ?c2 ?c3 ?c4 ?c5 ?_)
  case c2 => intro u hu; simp at hu; rcases hu with rfl | rfl <;> rfl
  case c3 => unfold maxLen; omega
  case c4 => omega
  case c5 => simp; omega
  intro v' w2 hown' hgrow _; have dO : Below (w.heap.size + 1) w1 w2 := ((ay _ _).alloc lY _).grown hgrow (by simp; omega) (fun j hj => by cases hj); have cD : Hid (RB w2 w.heap.size []) := (dO.block _ (Nat.lt_succ_self _)).trans cC.out; have bY := hid (bX.out.trans (dO.mono (Nat.le_succ _))); obtain ⟨g, c, rfl⟩ : ∃ g c, v' = .slice (some ⟨g, 0, none⟩) 1 c := by
   rcases hown'.2 with ⟨_, h0⟩ | ⟨g, c, cur, h, _⟩
   . omega
   . exact ⟨g, c, h⟩
  have c1 := cD.out.cell; have he := jeV; clear hown' hgrow dO; go_wp2; go_ret; exact ⟨⟨g, c, rfl⟩, bY.out⟩
theorem jio (p q : Addr) (w : World) :
 CallsD Tryz.prog 204 #[.pointer (some p), .pointer (some q)] .returning w fun e u' w' => e = .returned (.tuple #[]) /\ u' = .returning /\ w' = w := by
 refine callsD_of_wpS Tryz.func204 rfl fun c₀ cs hu => ?_
 have hnil : ∀ w : World, (binOp BinOp.neq 20 .nilIface .nilIface).run Tryz.prog w = .ok (.bool false) w := fun _ => by kernel_rfl
 apply wpS_seq
 apply wpS_region
 simp [wpOpsS, go_sem, recoverD, hu, Tryz.ntmps204, Exit.thenS]
 apply wpS_seq
 apply wpS_region
 simp [wpOpsS, go_sem, Exit.thenS, hnil]
 refine wpS_cond (t := false) (by simp [Act.eval, Array.replicate]) ?_; simp only [Bool.false_eq_true, if_false]; refine wpS_of_wp (wp_skip ?_); cases c₀
 simp_all [bodyPostS, results, Tryz.results204]
theorem jnq (s x y : List UInt8) (w : World) (hO : One s x y) :
 Calls Tryz.prog 166 #[.string (S s)] w fun e w' => (∃ g c, e = .returned (.tuple #[.slice (some ⟨g, 0, none⟩) 1 c, .int .i64 0])) /\ Below w.heap.size w w' := by
 have wm : ∀ (fn : Fn) (first cap : Array Value) (w : World), (Instr.makeFunc fn first cap).run Tryz.prog w = .ok (.func fn first cap) w := fun _ _ _ _ => rfl
 obtain ⟨W0, hW0⟩ : ∃ W0, W0 = (w.alloc (.cells #[.slice none 0 0] 74)).alloc (.cells #[.int .i64 0] 51) := ⟨_, rfl⟩; have cj := hid (show Below w.heap.size w W0 by rw [hW0]; exact (nb0 _ _).alloc (by simp) _); have hz0 : W0.heap.size = w.heap.size + 2 := by rw [hW0]; simp
 have c0 : W0.cell? ⟨w.heap.size, 0, none⟩ = some (.slice none 0 0) := by rw [hW0]; simp
 have c1 : W0.cell? ⟨w.heap.size + 1, 0, none⟩ = some (.int .i64 0) := by rw [hW0]; simp
 have f0 : W0.frozen? ⟨w.heap.size, 0, none⟩ = false := by rw [hW0]; simp
 have f1 : W0.frozen? ⟨w.heap.size + 1, 0, none⟩ = false := by rw [hW0]; simp
 have HW : Hid _ := hW0; have mi : ¬ (2000 : Int) < ((S s).size : Int) := by rw [jb]; have := hO.len; omega
 have kU := hid (jfG s x y W0 hO); clear hW0 hO
 go_enter_defers Tryz.func166, Tryz.ntmps166
 go_wp2_with fail; rw [<- HW.out]; refine kU.out.mono ?_; rintro e w1 ⟨⟨g, c, rfl⟩, hb⟩; have d0 := ja c0 hb; have d1 := ja c1 hb; have g0 : w1.frozen? ⟨w.heap.size, 0, none⟩ = false := (hb.frozen (by simp [hz0])).trans f0; have g1 : w1.frozen? ⟨w.heap.size + 1, 0, none⟩ = false := (hb.frozen (by simp [hz0])).trans f1; have bX := hid (jjL cj.out hb (ai _)); clear c0 c1 f0 f1 hb; go_wp2; refine leaves_cons (f := 204) (args := #[.pointer (some ⟨w.heap.size, 0, none⟩), .pointer (some ⟨w.heap.size + 1, 0, none⟩)]) (by simp) (by simp [go_sem]) ?_; refine (jio _ _ _).mono ?_; rintro e u' w2 ⟨rfl, rfl, rfl⟩; have k0 : (((w1.setCell ⟨w.heap.size, 0, none⟩ (.slice (some ⟨g, 0, none⟩) 1 c)).setCell ⟨w.heap.size, 0, none⟩ (.slice (some ⟨g, 0, none⟩) 1 c)).setCell ⟨w.heap.size + 1, 0, none⟩ (.int .i64 0)).cell? ⟨w.heap.size, 0, none⟩ = some (.slice (some ⟨g, 0, none⟩) 1 c) :=
  (aL _ _ _ _ (by simp)).trans (bS _ _ _ (by rw [bS w1 _ _ (by rw [d0]; rfl)]; rfl))
 have k1 : (((w1.setCell ⟨w.heap.size, 0, none⟩ (.slice (some ⟨g, 0, none⟩) 1 c)).setCell ⟨w.heap.size, 0, none⟩ (.slice (some ⟨g, 0, none⟩) 1 c)).setCell ⟨w.heap.size + 1, 0, none⟩ (.int .i64 0)).cell? ⟨w.heap.size + 1, 0, none⟩ = some (.int .i64 0) :=
  bS _ _ _ (by rw [aL _ _ _ _ (by simp), aL _ _ _ _ (by simp), d1]; rfl)
 show ∃ v, (results Tryz.f166 _).run Tryz.prog _ = .ok v _ /\ ((∃ g c, Ending.returned v = .returned (.tuple #[.slice (some ⟨g, 0, none⟩) 1 c, .int .i64 0])) /\ _)
 exact ⟨.tuple #[.slice (some ⟨g, 0, none⟩) 1 c, .int .i64 0], by simp [results, Tryz.results166, go_sem, k0, k1], ⟨g, c, rfl⟩, ((bX.out.setCell (ai _) _).setCell (ai _) _).setCell (by simp) _⟩
open Go.Proofs
theorem jbn (w : World) (o : Obj) (h : k < w.heap.size) : (w.alloc o).heap[k]? = w.heap[k]? := by
 show (w.heap.push o)[k]? = _
 rw [bm h, aY h]
theorem jp2 {base : Nat} {e : TypeId} {size g cap : Nat} {xs : List Value} (h : w.ownsRow base e size (.slice (some ⟨g, 0, none⟩) n cap) n xs) (hg : b < g) : (w.setCell ⟨b, 0, none⟩ v).ownsRow base e size (.slice (some ⟨g, 0, none⟩) n cap) n xs := by
 refine ⟨h.1, ?_⟩
 rcases h.2 with ⟨h', _⟩ | ⟨g', cap', cur, h1, h2, gv, q⟩
 . cases h'
 . refine .inr ⟨g', cap', cur, h1, h2, ?_, q⟩; simp only [aE, aS, Addr.mk.injEq, and_true, true_and] at h1; obtain ⟨rfl, rfl⟩ := h1; exact (aC _ _ _ _ (by show g ≠ b; omega)).trans gv
structure Wrote (b : Nat) (g g' : Option Nat) (w w' : World) : Prop where
 os : w'.os = w.os
 tape : w'.tape = w.tape
 output : w'.output = w.output
 size : w.heap.size <= w'.heap.size
 block : ∀ k, k < w.heap.size -> k ≠ b -> some k ≠ g -> w'.heap[k]? = w.heap[k]?
 row : ∀ k, g' = some k -> g = some k ∨ w.heap.size <= k
theorem Wrote.refl (b : Nat) (g : Option Nat) (w : World) : Wrote b g g w w := ⟨rfl, rfl, rfl, ai _, fun _ _ _ _ => rfl, fun _ h => .inl h⟩
theorem Wrote.trans {b : Nat} {g g' g'' : Option Nat} {x y z : World} (h : Wrote b g g' x y) (k : Wrote b g' g'' y z) : Wrote b g g'' x z := by
 refine ⟨k.os.trans h.os, k.tape.trans h.tape, k.output.trans h.output, aN h.size k.size, fun i hi hb hg => ?_, fun i hi => ?_⟩
 . refine (k.block i (aK hi h.size) hb fun e => ?_).trans (h.block i hi hb hg)
   rcases h.row i e.symm with q | q
   . exact hg q.symm
   . omega
 . rcases k.row i hi with q | q
   . exact h.row i q
   . exact .inr (aN h.size q)
theorem Wrote.of (h : Below w.heap.size w w') : Wrote b g g w w' := ⟨h.os, h.tape, h.output, h.size, fun k hk _ _ => h.block k hk, fun _ h => .inl h⟩
theorem Wrote.below {B : Nat} (h : Wrote b g g' w w') (hB : B <= b) (hw : B <= w.heap.size) (hg : ∀ k, g = some k -> B <= k) : Below B w w' :=
 ⟨h.os, h.tape, h.output, h.size, fun k hk => h.block k (by omega) (by omega) (fun e => by have := hg k e.symm; omega)⟩
theorem Wrote.stay (h : Wrote b g g' w w') (hk : k < w.heap.size) (hn : g ≠ some k) : g' ≠ some k := by
 intro e
 rcases h.row k e with q | q
 . exact hn q
 . omega
def WrB (w : World) (b : Nat) (g : Option Nat) (l : List Tok) : Prop :=
 ∃ a c, w.heap[b]? = some (.cells #[.slice a l.length c] 236) /\ (Value.slice a l.length c).ownBlock = g /\ OwnT w (b + 1) (.slice a l.length c) l
theorem WrB.lt (h : WrB w b g l) : b < w.heap.size := by
 obtain ⟨a, c, h1, _⟩ := h; exact (aj.1 h1).1
theorem WrB.row (h : WrB w b g l) : ∀ k, g = some k -> b + 1 <= k /\ k < w.heap.size := by
 obtain ⟨a, c, _, h2, h3⟩ := h; intro k hk; exact aA h3 k (h2.trans hk)
theorem WrB.fresh (h : WrB w b g l) : g ≠ some w.heap.size := fun e => by have := h.row _ e; omega
theorem WrB.next (h : WrB w b g l) (hb : Below w.heap.size w w') : WrB w' b g l := by
 obtain ⟨a, c, h1, h2, h3⟩ := h; exact ⟨a, c, (hb.block b (aj.1 h1).1).trans h1, h2, jX h3 hb⟩
theorem WrB.below {w w' : World} {b : Nat} {g g' : Option Nat} {l : List Tok} (h : WrB w b g l) (hb : Wrote b g g' w w') : Below b w w' := hb.below (ai _) (bi h.lt) fun k hk => by have := h.row k hk; omega
def Wd (b : Nat) (g : Option Nat) (w : World) (l ts : List Tok) (e : Ending) (w' : World) : Prop :=
 e = .returned (.tuple #[]) /\ ∃ g', WrB w' b g' ((l ++ ts).take 401) /\ Wrote b g g' w w'
theorem jn (l x y : List Tok) : ((l ++ x).take 401 ++ y).take 401 = (l ++ (x ++ y)).take 401 := by
 rw [<- aH]; generalize l ++ x = z; rw [List.take_append, List.take_take, bp, Nat.min_self, List.take_append]
 congr 2
 omega
theorem jho {g2 H : Nat} {W0 w3 : World} (dc : Below w.heap.size w W0) (o : Obj) (hg : (W0.drew.alloc o).grownBy w3 g) (hat : g = some g2 ∨ g2 = H) (hH : w.heap.size <= H) : Wrote b g (some g2) w w3 := by
 have hs : w.heap.size <= W0.heap.size := dc.size; have hz : (W0.drew.alloc o).heap.size = W0.heap.size + 1 := by simp
 refine ⟨hg.os.trans dc.os, hg.tape.trans dc.tape, hg.output.trans dc.output, by have := hg.size; omega, fun k hk _ hn => ?_, fun k hk => ?_⟩
 . refine (hg.block k (by omega) hn).trans (Eq.trans ?_ (dc.block k hk)); exact jbn W0.drew o (show k < W0.heap.size by omega)
 . cases hk
   rcases hat with h | h
   . exact .inl h
   . exact .inr (by omega)
theorem Wrote.set (h : Wrote b g g' w w') (o : Nat) (v : Value) : Wrote b g g' w (w'.setCell ⟨b, o, none⟩ v) :=
 ⟨h.os, h.tape, h.output, by have := h.size; simpa [World.setCell] using this, fun k hk hb hg => (aC _ _ _ _ hb).trans (h.block k hk hb hg), h.row⟩
theorem jgc (b : Nat) (g : Option Nat) (l : List Tok) (t : Tok) (w : World) (hR : WrB w b g l) (hl : l.length <= 401) :
 Calls Tryz.prog 227 #[.pointer (some ⟨b, 0, none⟩), .agg #[.int .i64 t.kind, .string (S t.text), .int .i64 t.num]] w (Wd b g w l [t]) := by
 have hbl := hR.lt; have dR : Hid (WrB w b g l) := hR; obtain ⟨a, c, h1, h2, h3⟩ := hR; have hc0 : w.cell? ⟨b, 0, none⟩ = some (.slice a l.length c) := by simp [World.cell?, h1]
 have lG : w.frozen? ⟨b, 0, none⟩ = false := by simp [World.frozen?, h1]
 have hne : b ≠ w.heap.size := by omega
 have lL : w.heap.size ≠ b := by omega
 by_cases hle : l.length <= 400
 . have wb : (l.length : Int) <= 400 := by omega
   have HT : Hid ((l ++ [t]).take 401 = l ++ [t]) := aV (by simp; omega); have H1 : Hid _ := h1; have H2 : Hid _ := h2; have hO : World.ownsRow w (b + 1) 147 3 (.slice a l.length c) l.length (qM l) := h3; obtain ⟨i0, hi, hz0, hz1, hz2⟩ := info_parts jkN; clear h1 h2 h3; obtain ⟨W0, hW0⟩ : ∃ W0, W0 = w.alloc (.cells #[.int .i64 t.kind, .string (S t.text), .int .i64 t.num] 147) := ⟨_, rfl⟩; have dc : Below w.heap.size w W0 := by rw [hW0]; exact nb0 _ _
   have hz : W0.heap.size = w.heap.size + 1 := by rw [hW0]; simp
   have hH : W0.heap[w.heap.size]? = some (.cells #[.int .i64 t.kind, .string (S t.text), .int .i64 t.num] 147) := by rw [hW0]; exact az w _
   obtain ⟨k0, k1, k2⟩ := bx3 hH; have m0 : W0.cell? ⟨b, 0, none⟩ = some (.slice a l.length c) := ja hc0 dc; have n0 : W0.frozen? ⟨b, 0, none⟩ = false := (dc.frozen (by simp; omega)).trans lG; have xX : World.ownsRow W0 (b + 1) 147 3 (.slice a l.length c) l.length (qM l) := jX hO dc; have b9 : Hid _ := hW0; clear hW0 hH; go_enter Tryz.func227, Tryz.ntmps227; go_wp2; rw [<- b9.out]
   go_region_law
    (refine step_append_lies _ (by rfl) _ _ _ (by rfl) (b + 1) 147 i0 _ 3 32 Tryz.underlying114 hi hz0 hz1 hz2 rfl (by omega) (.slice a l.length c) l.length (qM l) (by rfl) (by first | exact aO (show World.ownsRow W0.drew _ _ _ _ _ _ from xX) _ | exact (aO xX _).drew)
        ⟨w.heap.size + 1, 0, none⟩ 1 1 [.int .i64 t.kind, .string (S t.text), .int .i64 t.num] (by rfl) (by rfl) (by first | exact jmg W0.drew _ hz _ _ _ _ | exact jmg W0 _ hz _ _ _ _) (by simp [Value.oneCell']) (by omega) (by unfold maxLen; omega) (by omega) (by simp; omega) _ rfl ?_
     intro g2 cap w3 dn hgrow hat fh; have cP : Hid (Wrote b (Value.slice a l.length c).ownBlock (some g2) w w3) := jho (W0 := W0) dc _ hgrow hat (by simp; omega); have hrow : b + 1 <= g2 := by
        rcases hat with h | h
        . exact (aA hO g2 h).1
        . simp at h; omega
     have z3 : w3.frozen? ⟨b, 0, none⟩ = false := (bq (w := W0.drew) ((hgrow.block b (by simp; omega) (fun e => by have := (aA hO b e.symm).1; omega)).trans (jbn W0.drew _ (show b < W0.heap.size by omega)))).trans n0; have q3 : w3.cell? ⟨b, 0, none⟩ = some (.slice a l.length c) := (aP (w := W0.drew) ((hgrow.block b (by simp; omega) (fun e => by have := (aA hO b e.symm).1; omega)).trans (jbn W0.drew _ (show b < W0.heap.size by omega)))).trans m0; have H3b : Hid (w3.heap[b]? = some (.cells #[.slice a l.length c] 236)) := (hgrow.block b (by simp; omega) (fun e => by have := (aA hO b e.symm).1; omega)).trans ((jbn W0.drew _ (show b < W0.heap.size by omega)).trans ((dc.block b hbl).trans H1.out)); clear hgrow hat)
   all_goals
    have db : Hid (OwnT w3 (b + 1) (.slice (some ⟨g2, 0, none⟩) (l ++ [t]).length cap) (l ++ [t])) := by
        unfold Hid OwnT; rw [jcA, aB]; exact dn
    clear dn; go_wp2; go_end0; refine ⟨rfl, some g2, ?_, ?_⟩
    . rw [HT.out]; refine ⟨some ⟨g2, 0, none⟩, cap, ?_, rfl, ?_⟩
      . have := jk (i := 0) (.slice (some ⟨g2, 0, none⟩) (l ++ [t]).length cap) H3b.out
        simpa using this
      . exact jp2 db.out hrow
    . have := cP.out.set 0 (.slice (some ⟨g2, 0, none⟩) (l.length + 1) cap); rw [H2.out] at this; exact this
 . have wb : ¬ (l.length : Int) <= 400 := by omega
   have HT : Hid ((l ++ [t]).take 401 = l) := by
    unfold Hid; rw [List.take_append, aV (by omega)]; have e : 401 - l.length = 0 := by omega
    rw [e]; simp
   clear h1 h2 h3; go_enter Tryz.func227, Tryz.ntmps227; go_wp2; go_end0; have cw : Below w.heap.size w (w.alloc (.cells #[.int .i64 t.kind, .string (S t.text), .int .i64 t.num] 147)) := nb0 _ _; exact ⟨rfl, g, by rw [HT.out]; exact dR.out.next cw, Wrote.of cw⟩
theorem j5 (b : Nat) (g : Option Nat) (l : List Tok) (k : Int) (x : List UInt8) (w : World) (hR : WrB w b g l) (hl : l.length <= 401) :
 Calls Tryz.prog 199 #[.pointer (some ⟨b, 0, none⟩), .int .i64 k, .string (S x)] w (Wd b g w l [⟨k, x, 0⟩]) := by
 have HR : Hid (WrB w b g l) := hR; clear hR; go_enter Tryz.func199, Tryz.ntmps199; go_wp2_with fail; refine (jgc b g l ⟨k, x, 0⟩ w HR.out hl).mono ?_; rintro e u ⟨rfl, hu⟩; have HU : Hid _ := hu; clear hu; go_wp2; go_end0; exact ⟨rfl, HU.out⟩
theorem ju (l : List Tok) : (l.take 401).length <= 401 := by rw [bp]; omega
theorem jj2 (b : Nat) (g : Option Nat) (l : List Tok) (o : Bool) (n : Int) (w : World) (hR : WrB w b g l) (hl : l.length <= 401) :
 Calls Tryz.prog 250 #[.pointer (some ⟨b, 0, none⟩), .bool o, .int .i64 n] w (Wd b g w l [tagT (if o then jjf else jdP), ⟨3, [], n⟩]) := by
 have HR : Hid (WrB w b g l) := hR; clear hR; cases o with
 | false =>
   go_enter Tryz.func250, Tryz.ntmps250; go_wp2_with fail; refine (j5 b g l 2 jdP w HR.out hl).mono ?_; rintro e u ⟨rfl, g2, hU, hW⟩; have HU : Hid _ := hU; have HW : Hid _ := hW; clear hU hW; go_wp2_with fail; refine (jgc b g2 _ ⟨3, [], n⟩ u HU.out (ju _)).mono ?_; rintro e v ⟨rfl, g3, cH, hW3⟩; rw [jn] at cH; have dS : Hid _ := cH; have cP : Hid _ := HW.out.trans hW3; clear cH hW3; go_wp2; go_end0; exact ⟨rfl, g3, dS.out, cP.out⟩
 | true =>
   go_enter Tryz.func250, Tryz.ntmps250; go_wp2_with fail; refine (j5 b g l 2 jjf w HR.out hl).mono ?_; rintro e u ⟨rfl, g2, hU, hW⟩; have HU : Hid _ := hU; have HW : Hid _ := hW; clear hU hW; go_wp2_with fail; refine (jgc b g2 _ ⟨3, [], n⟩ u HU.out (ju _)).mono ?_; rintro e v ⟨rfl, g3, cH, hW3⟩; rw [jn] at cH; have dS : Hid _ := cH; have cP : Hid _ := HW.out.trans hW3; clear cH hW3; go_wp2; go_end0; exact ⟨rfl, g3, dS.out, cP.out⟩
theorem joX {a : Option Addr} {c : Nat} {l : List (List UInt8)} (h : TxtsM Q w (.slice a l.length c) l) {i : Nat} (hx : l[i]? = some x) :
 ∃ b o, a = some ⟨b, o, none⟩ /\ b < w.heap.size /\ w.cell? ⟨b, o + i, none⟩ = some (.string (S x)) := by
 obtain ⟨a', c', hv, _, hr⟩ := h; simp only [aE, true_and] at hv; obtain ⟨rfl, rfl⟩ := hv; obtain ⟨b, o, cs, ha, hb, _, _, hc, hP⟩ := hr i x hx; unfold TxtM at hP; subst hP; have := hc 0 _ rfl; rw [Nat.mul_one, bC] at this; exact ⟨b, o, ha, hb, this⟩
abbrev und (b : Nat) : Nat -> Prop := fun k => k < b
theorem TxtsM.wrote {l : List (List UInt8)} (h : TxtsM (und b) w v l) (hb : Below b w w') : TxtsM (und b) w' v l := TxtsM.imp h (fun _ h => h) (Keeps.of_below' hb fun _ h => h)
theorem TstM.wrote {t : Tst} (h : TstM (und b) n w t cs) (hb : Below b w w') : TstM (und b) n w' t cs := TstM.imp (fun _ h => h) (Keeps.of_below' hb fun _ h => h) _ _ _ h
theorem CmdM.wrote {t : Cmd} (h : CmdM (und b) n w t cs) (hb : Below b w w') : CmdM (und b) n w' t cs := CmdM.imp (fun _ h => h) (Keeps.of_below' hb fun _ h => h) _ _ _ h
theorem TstsM.wrote {w w' : World} {b n : Nat} {v : Value} {l : List Tst} (h : TstsM (und b) n w v l) (hb : Below b w w') : TstsM (und b) n w' v l := RowM.imp h (fun _ h => h) (Keeps.of_below' hb fun _ h => h) fun _ _ h => h.wrote hb
theorem CmdsM.wrote {w w' : World} {b n : Nat} {v : Value} {l : List Cmd} (h : CmdsM (und b) n w v l) (hb : Below b w w') : CmdsM (und b) n w' v l := RowM.imp h (fun _ h => h) (Keeps.of_below' hb fun _ h => h) fun _ _ h => h.wrote hb
def sepK (f : A -> List Tok) (l : List A) (k : Nat) : List Tok := sepT f (l.take k)
theorem jfP (f : A -> List Tok) (l : List A) (k : Nat) (x : A) (h : l[k]? = some x) : sepK f l (k + 1) = sepK f l k ++ ((if 0 < k then [jT 44] else []) ++ f x) := by
 unfold sepK; have hk : k < l.length := (au.1 h).1; have hg : l[k] = x := (au.1 h).2; rw [aU hk, hg]; cases k with
 | zero => simp [sepT]
 | succ k =>
   cases l with
   | nil => simp at hk
   | cons y r => simp [sepT]
theorem jh4 (f : A -> List Tok) (l : List A) : sepK f l l.length = sepT f l := by unfold sepK; rw [List.take_length]
theorem vB (b : Nat) (g : Option Nat) (l : List Tok) (ls : List (List UInt8)) (a : Option Addr) (c : Nat) (w : World) (hR : WrB w b g l) (hl : l.length <= 401) (hT : TxtsM (und b) w (.slice a ls.length c) ls) :
 Calls Tryz.prog 201 #[.pointer (some ⟨b, 0, none⟩), .slice a ls.length c] w (Wd b g w l (jcg ls)) := by
 have HR : Hid (WrB w b g l) := hR; have HT : Hid (TxtsM (und b) w (.slice a ls.length c) ls) := hT; have hmx := hT.small; unfold maxLen at hmx; clear hR hT
 by_cases h1 : ls.length = 1
 . obtain ⟨x, rfl⟩ : ∃ x, ls = [x] := List.length_eq_one_iff.1 h1; obtain ⟨q, o, rfl, hq, e0⟩ := joX HT.out (i := 0) (x := x) rfl; rw [bC] at e0; go_enter Tryz.func201, Tryz.ntmps201; go_wp2_with fail; refine (j5 b g l 4 x w HR.out hl).mono ?_; rintro e u ⟨rfl, hu⟩; have HU : Hid _ := hu; clear hu; go_wp2; go_end0; exact ⟨rfl, HU.out⟩
 . have pp : ((ls.length : Int) == 1) = false := by rw [bA]; omega
   have oV : Hid (jcg ls = jT 91 :: (sepT (fun x => [strT x]) ls ++ [jT 93])) := by
    unfold Hid
    match ls, h1 with
    | [], _ => rfl
    | [x], h => simp at h
    | x :: y :: r, _ => rfl
   clear h1; go_enter Tryz.func201, Tryz.ntmps201; go_wp2_with fail; refine (j5 b g l 5 [91] w HR.out hl).mono ?_; rintro e w1 ⟨rfl, g1, eF, hW1⟩; have ew : Hid (WrB w1 b g1 ((l ++ ([jT 91] ++ sepK (fun x => [strT x]) ls 0)).take 401)) := eF; have cO : Hid _ := hW1; clear eF hW1; go_wp2
   go_loopw [18] (fun v wr => ∃ (i : Nat) (g' : Option Nat), i <= ls.length /\ v = .int .i64 i /\ WrB wr b g' ((l ++ ([jT 91] ++ sepK (fun x => [strT x]) ls i)).take 401) /\ Wrote b g g' w wr) (fun v _ => ls.length - (intOf v).toNat)
   case atStart => exact ⟨0, g1, aQ _, rfl, ew.out, cO.out⟩
   case round =>
    obtain ⟨i, g', hi, rfl, de, eZ⟩ := hrel; have dR : Hid _ := de; have dZ : Hid _ := eZ; have ke := HT.out.wrote (HR.out.below eZ)
    by_cases hlt : i < ls.length
    . have i1 : (i : Int) < (ls.length : Int) := by omega
      have i3 : (0 : Int) <= (i : Int) := by omega
      obtain ⟨x, hx⟩ : ∃ x, ls[i]? = some x := ⟨_, aw hlt⟩; obtain ⟨q, o, rfl, hq, e0⟩ := joX ke hx; have HS : Hid _ := jfP (fun x => [strT x]) ls i x hx; clear hx ke de eZ
      by_cases fi : 0 < i
      . have i4 : (0 : Int) < (i : Int) := by omega
        go_wp2_with fail; refine (j5 b g' _ 5 [44] wr dR.out (ju _)).mono ?_; rintro e w2 ⟨rfl, g2, cG, hW2⟩; rw [jn] at cG; have eP : Hid _ := cG; have dH : Hid _ := dZ.out.trans hW2; clear cG hW2 e0; go_wp2_with fail; refine (j5 b g2 _ 4 x w2 eP.out (ju _)).mono ?_; rintro e w3 ⟨rfl, g3, cH, hW3⟩; rw [jn] at cH; have dS : Hid (WrB w3 b g3 ((l ++ ([jT 91] ++ sepK (fun x => [strT x]) ls (i + 1))).take 401)) := by
            unfold Hid; rw [HS.out, if_pos fi]
            simpa [jT, strT] using cH
        have cP : Hid _ := dH.out.trans hW3; clear cH hW3; go_wp2; exact ⟨⟨i + 1, g3, by omega, by go_num, dS.out, cP.out⟩, by simp [intOf]; omega⟩
      . have i4 : ¬ (0 : Int) < (i : Int) := by omega
        go_wp2_with fail; refine (j5 b g' _ 4 x wr dR.out (ju _)).mono ?_; rintro e w3 ⟨rfl, g3, cH, hW3⟩; rw [jn] at cH; have dS : Hid (WrB w3 b g3 ((l ++ ([jT 91] ++ sepK (fun x => [strT x]) ls (i + 1))).take 401)) := by
            unfold Hid; rw [HS.out, if_neg fi]
            simpa [jT, strT] using cH
        have cP : Hid _ := dZ.out.trans hW3; clear cH hW3 e0; go_wp2; exact ⟨⟨i + 1, g3, by omega, by go_num, dS.out, cP.out⟩, by simp [intOf]; omega⟩
    . have i1 : ¬ (i : Int) < (ls.length : Int) := by omega
      obtain rfl : i = ls.length := by omega
      clear ke de eZ; go_wp2_with fail; refine (j5 b g' _ 5 [93] wr dR.out (ju _)).mono ?_; rintro e w2 ⟨rfl, g2, cG, hW2⟩; rw [jn] at cG; have eP : Hid (WrB w2 b g2 ((l ++ jcg ls).take 401)) := by
       unfold Hid; rw [oV.out]; rw [jh4] at cG
       simpa [jT] using cG
      have dH : Hid _ := dZ.out.trans hW2; clear cG hW2; go_wp2; go_end0; exact ⟨rfl, g2, eP.out, dH.out⟩
theorem Wrote.cellAt (h : Wrote b g g' w w') (hp : w.cell? p = some v) (hb : p.block ≠ b) (hg : g ≠ some p.block) : w'.cell? p = some v :=
 (aP (w := w) (h.block p.block (aG w _ hp) hb (fun e => hg e.symm))).trans hp
theorem WordsAt.low (h : WordsAt w) (hb : Below b w w') (hG : 3 < b) : WordsAt w' := h.keeps (Q := und b) (Keeps.of_below' hb fun _ h => h) hG
theorem jku {t : Tst} (h : jt (n + 1) d t = 0) : (1 <= t.kind /\ t.kind <= 10) /\ d <= 6 /\ jc8 t = true /\ jj (jt n (d + 1)) t.tests = 0 := by
 unfold jt at h
 by_cases h1 : oneP (jQ 1 t.kind) d (jc8 t) = 0
 . rw [if_pos h1] at h; unfold oneP at h1; cases hk : jQ 1 t.kind with
   | false => rw [hk] at h1; simp at h1
   | true =>
     rw [hk] at h1; cases hf : jc8 t with
     | false => rw [hf] at h1; rcases bz 6 d with hd | hd <;> simp [hd, Nat.not_lt.2] at h1 <;> omega
     | true =>
       rw [hf] at h1; rw [jkQ] at hk; simp only [aX, decide_eq_true_eq] at hk; refine ⟨hk, ?_, rfl, h⟩
       rcases bz 6 d with hd | hd
       . rw [if_pos hd] at h1; simp at h1
       . exact hd
 . rw [if_neg h1] at h; exact absurd h h1
theorem qz {f : A -> Int} {l : List A} (h : jj f l = 0) : ∀ x ∈ l, f x = 0 := by
 induction l with
 | nil => intro x hx; cases hx
 | cons y r ih =>
   unfold jj at h
   by_cases hy : f y = 0
   . rw [if_pos hy] at h; intro x hx; cases bV.1 hx with
     | inl e => rw [e]; exact hy
     | inr e => exact ih h x e
   . rw [if_neg hy] at h; exact absurd h hy
def WrT (n : Nat) : Prop := ∀ (t : Tst) (d b : Nat) (g : Option Nat) (l : List Tok) (w : World) (an ak at' : Option Addr) (cn ck ct : Nat), WrB w b g l -> l.length <= 401 -> 3 < b -> WordsAt w -> jt n d t = 0 ->
    TstM (und b) n w t [.int .i64 t.kind, .int .i64 t.mat, .int .i64 t.part, .slice an t.names.length cn, .slice ak t.keys.length ck, .bool t.over, .int .i64 t.limit, .slice at' t.tests.length ct] ->
    Calls Tryz.prog 228 #[.pointer (some ⟨b, 0, none⟩), .agg #[.int .i64 t.kind, .int .i64 t.mat, .int .i64 t.part, .slice an t.names.length cn, .slice ak t.keys.length ck, .bool t.over, .int .i64 t.limit, .slice at' t.tests.length ct]] w (Wd b g w l (jay n t))
theorem jmu (n : Nat) (ih : WrT n) (ts : List Tst) (d b : Nat) (g : Option Nat) (l : List Tok) (w : World) (a : Option Addr) (c : Nat) (hR : WrB w b g l) (hl : l.length <= 401) (hG : 3 < b) (hw : WordsAt w) (hF : jj (jt n d) ts = 0) (hT : TstsM (und b) n w (.slice a ts.length c) ts) :
 Calls Tryz.prog 249 #[.pointer (some ⟨b, 0, none⟩), .slice a ts.length c] w (Wd b g w l (jT 40 :: (sepT (jay n) ts ++ [jT 41]))) := by
 have HR : Hid (WrB w b g l) := hR; have HT : Hid (TstsM (und b) n w (.slice a ts.length c) ts) := hT; have cR : Hid (WrT n) := ih; have HW : Hid (WordsAt w) := hw; have HF : Hid (jj (jt n d) ts = 0) := hF; have hmx := hT.small; unfold maxLen at hmx; clear hR hT ih hw hF; go_enter Tryz.func249, Tryz.ntmps249; go_wp2_with fail; refine (j5 b g l 5 [40] w HR.out hl).mono ?_; rintro e w1 ⟨rfl, g1, eF, hW1⟩; have ew : Hid (WrB w1 b g1 ((l ++ ([jT 40] ++ sepK (jay n) ts 0)).take 401)) := eF; have cO := hid (hW1); clear eF hW1; go_wp2
 go_loopw [10] (fun v wr => ∃ (i : Nat) (g' : Option Nat), i <= ts.length /\ v = .int .i64 i /\ WrB wr b g' ((l ++ ([jT 40] ++ sepK (jay n) ts i)).take 401) /\ Wrote b g g' w wr) (fun v _ => ts.length - (intOf v).toNat)
 case atStart => exact ⟨0, g1, aQ _, rfl, ew.out, cO.out⟩
 case round =>
  obtain ⟨i, g', hi, rfl, de, eZ⟩ := hrel; have dR := hid (de); have dZ := hid (eZ); have iq := HR.out.below eZ; have ke := HT.out.wrote iq
  by_cases hlt : i < ts.length
  . have i1 : (i : Int) < (ts.length : Int) := by omega
    have i3 : (0 : Int) <= (i : Int) := by omega
    obtain ⟨x, hx⟩ : ∃ x, ts[i]? = some x := ⟨_, aw hlt⟩; obtain ⟨q, o, an, cn, ak, ck, at', ct, rfl, hq, e0, e1, e2, e3, e4, e5, e6, e7, fV⟩ := jf2 ke hx; have HS := hid (jfP (jay n) ts i x hx); have lq : Hid (jt n d x = 0) := qz HF.out x (aF hx); have mc : Hid (TstM (und b) n wr x [.int .i64 x.kind, .int .i64 x.mat, .int .i64 x.part, .slice an x.names.length cn, .slice ak x.keys.length ck, .bool x.over, .int .i64 x.limit, .slice at' x.tests.length ct]) := fV; have fy : Hid (WordsAt wr) := HW.out.low iq hG; have hbl := de.lt; have dD := de.fresh; have cw : Below wr.heap.size wr (wr.alloc (.cells #[.int .i64 x.kind, .int .i64 x.mat, .int .i64 x.part, .slice an x.names.length cn, .slice ak x.keys.length ck, .bool x.over, .int .i64 x.limit, .slice at' x.tests.length ct] 199)) := nb0 _ _; obtain ⟨W0, hW0⟩ : ∃ W0, W0 = wr.alloc (.cells #[.int .i64 x.kind, .int .i64 x.mat, .int .i64 x.part, .slice an x.names.length cn, .slice ak x.keys.length ck, .bool x.over, .int .i64 x.limit, .slice at' x.tests.length ct] 199) := ⟨_, rfl⟩; rw [<- hW0] at cw; have hz0 : W0.heap.size = wr.heap.size + 1 := by rw [hW0]; simp
    have hH : W0.heap[wr.heap.size]? = some (.cells #[.int .i64 x.kind, .int .i64 x.mat, .int .i64 x.part, .slice an x.names.length cn, .slice ak x.keys.length ck, .bool x.over, .int .i64 x.limit, .slice at' x.tests.length ct] 199) := by rw [hW0]; exact az wr _
    obtain ⟨f0, f1, f2, f3, f4, f5, f6, f7⟩ := bx8 hH; have b9 := hid (hW0); have cu := hid (cw); have cE : wr.heap.size ≠ b := by omega
    have Co : wr.heap.size < W0.heap.size := by omega
    clear hx ke de eZ fV iq hW0 cw hH
    by_cases fi : 0 < i
    . have i4 : (0 : Int) < (i : Int) := by omega
      go_wp2_with fail; rw [<- b9.out]; refine (j5 b g' _ 5 [44] W0 (dR.out.next cu.out) (ju _)).mono ?_; rintro e w2 ⟨rfl, g2, cG, hW2⟩; rw [jn] at cG; have k0 := hW2.cellAt f0 cE dD; have k1 := hW2.cellAt f1 cE dD; have k2 := hW2.cellAt f2 cE dD; have k3 := hW2.cellAt f3 cE dD; have k4 := hW2.cellAt f4 cE dD; have k5 := hW2.cellAt f5 cE dD; have k6 := hW2.cellAt f6 cE dD; have k7 := hW2.cellAt f7 cE dD; have ny := (dR.out.next cu.out).below hW2; have eP := hid (cG); have dH := hid ((dZ.out.trans (Wrote.of cu.out)).trans hW2); have nf : Hid (WordsAt w2) := (fy.out.next cu.out).low ny hG; have fx := hid ((mc.out.next cu.out).wrote ny); clear cG hW2 ny e0 e1 e2 e3 e4 e5 e6 e7 f0 f1 f2 f3 f4 f5 f6 f7; go_wp2_with fail; refine (cR.out x d b g2 _ w2 _ _ _ _ _ _ eP.out (ju _) hG nf.out lq.out fx.out).mono ?_; rintro e w3 ⟨rfl, g3, cH, hW3⟩; rw [jn] at cH; have dS : Hid (WrB w3 b g3 ((l ++ ([jT 40] ++ sepK (jay n) ts (i + 1))).take 401)) := by
       unfold Hid; rw [HS.out, if_pos fi]
       simpa [jT, List.append_assoc] using cH
      have cP := hid (dH.out.trans hW3); clear cH hW3; go_wp2; exact ⟨⟨i + 1, g3, by omega, by go_num, dS.out, cP.out⟩, by simp [intOf]; omega⟩
    . have i4 : ¬ (0 : Int) < (i : Int) := by omega
      have fx := hid (mc.out.next cu.out); have nf : Hid (WordsAt W0) := fy.out.next cu.out; have eP := hid (dR.out.next cu.out); go_wp2_with fail; rw [<- b9.out]; refine (cR.out x d b g' _ W0 _ _ _ _ _ _ eP.out (ju _) hG nf.out lq.out fx.out).mono ?_; rintro e w3 ⟨rfl, g3, cH, hW3⟩; rw [jn] at cH; have dS : Hid (WrB w3 b g3 ((l ++ ([jT 40] ++ sepK (jay n) ts (i + 1))).take 401)) := by
       unfold Hid; rw [HS.out, if_neg fi]
       simpa [jT, List.append_assoc] using cH
      have cP := hid ((dZ.out.trans (Wrote.of cu.out)).trans hW3); clear cH hW3 e0 e1 e2 e3 e4 e5 e6 e7 f0 f1 f2 f3 f4 f5 f6 f7; go_wp2; exact ⟨⟨i + 1, g3, by omega, by go_num, dS.out, cP.out⟩, by simp [intOf]; omega⟩
  . have i1 : ¬ (i : Int) < (ts.length : Int) := by omega
    obtain rfl : i = ts.length := by omega
    clear ke de eZ iq; go_wp2_with fail; refine (j5 b g' _ 5 [41] wr dR.out (ju _)).mono ?_; rintro e w2 ⟨rfl, g2, cG, hW2⟩; rw [jn] at cG; have eP : Hid (WrB w2 b g2 ((l ++ (jT 40 :: (sepT (jay n) ts ++ [jT 41]))).take 401)) := by
        unfold Hid; rw [jh4] at cG
        simpa [jT] using cG
    have dH := hid (dZ.out.trans hW2); clear cG hW2; go_wp2; go_end0; exact ⟨rfl, g2, eP.out, dH.out⟩
theorem Wrote.box (h : Wrote b g g' w w') {o : Obj} (hk : w.heap[k]? = some o) (hb : k ≠ b) (hg : g ≠ some k) : w'.heap[k]? = some o :=
 (h.block k (aj.1 hk).1 hb fun e => hg e.symm).trans hk
theorem jf7 (n : Nat) : WrT n := by
 induction n with
 | zero => intro t d b g l w an ak at' cn ck ct _ _ _ _ _ h; exact h.elim
 | succ n ih =>
   intro t d b g l w an ak at' cn ck ct hR hl hG hw hF hT; obtain ⟨_, _, _, _, _, _, m, hm, he, h1, h2, h3⟩ := zV hT; simp only [List.cons.injEq, aE, true_and, and_true] at he; obtain ⟨⟨rfl, rfl⟩, ⟨rfl, rfl⟩, rfl, rfl⟩ := he; obtain rfl : n = m := by omega
   obtain ⟨⟨dV, dW⟩, oq, eh, hF2⟩ := jku hF; obtain ⟨kind, mat, part, names, keys, over, limit, tests⟩ := t
   dsimp only at dV dW hF2 h1 h2 h3 ⊢
   have l6 := hid hF2; have cR := hid ih; have HR := hid hR; have HN := hid h1; have HK := hid h2; have HT := hid h3; have nL := hid eh; have hbl := hR.lt; have dD := hR.fresh; have cE : w.heap.size ≠ b := by omega
   clear hF hF2 ih h1 h2 h3 hT hm eh; obtain ⟨W0, hW0⟩ : ∃ W0, W0 = w.alloc (.cells #[.int .i64 kind, .int .i64 mat, .int .i64 part, .slice an names.length cn, .slice ak keys.length ck, .bool over, .int .i64 limit, .slice at' tests.length ct] 199) := ⟨_, rfl⟩; have cw : Below w.heap.size w W0 := by rw [hW0]; exact nb0 _ _
   have hH : W0.heap[w.heap.size]? = some (.cells #[.int .i64 kind, .int .i64 mat, .int .i64 part, .slice an names.length cn, .slice ak keys.length ck, .bool over, .int .i64 limit, .slice at' tests.length ct] 199) := by rw [hW0]; exact az w _
   obtain ⟨f0, f1, f2, f3, f4, f5, f6, f7⟩ := bx8 hH; have kN := hid hH; have b9 := hid hW0; have cu := hid cw; have pO : kind < 11 := by omega
   have fF : 0 <= kind := by omega
   have hc := hw 1 kind.toNat (by omega) (by omega)
   simp at hc
   have C4 : (3 : Nat) ≠ w.heap.size := by omega
   have BS : 3 < w.heap.size := by omega
   have na := hid (hw.next cw); clear hW0 cw hH hw hR; go_enter Tryz.func228, Tryz.ntmps228; go_wp2_with fail; rw [<- b9.out]; refine (j5 b g l 1 (jN 1 kind.toNat) W0 (HR.out.next cu.out) hl).mono ?_; rintro e w1 ⟨rfl, g1, eF, hW1⟩; have dB := hid (hW1.box kN.out cE dD); obtain ⟨k0, k1, k2, k3, k4, k5, k6, k7⟩ := bx8 dB.out; have hs1 := hW1.stay (k := w.heap.size) (aG W0 _ f0) dD; have di := hid ((HR.out.next cu.out).below hW1); have ew := hid eF; have cO := hid ((Wrote.of cu.out).trans hW1); clear eF hW1 f0 f1 f2 f3 f4 f5 f6 f7 hc; have bX := hid ((cu.out.mono (bi hbl)).trans di.out); have h10 : (kind = 1 ∨ kind = 2) ∨ kind = 3 ∨ (kind = 4 ∨ kind = 5) ∨ kind = 6 ∨ (kind = 7 ∨ kind = 8) ∨ kind = 9 ∨ kind = 10 := by omega
   rcases h10 with (rfl | rfl) | rfl | (rfl | rfl) | rfl | (rfl | rfl) | rfl | rfl
   iterate 2
    . go_wp2; go_end0; exact ⟨rfl, g1, ew.out, cO.out⟩
   . have h1 : tests.length = 1 := by
        have := nL.out; unfold jc8 at this
        simp at this
        exact this.1
     obtain ⟨x, rfl⟩ : ∃ x, tests = [x] := List.length_eq_one_iff.1 h1; obtain ⟨q, o, an2, cn2, ak2, ck2, at2, ct2, rfl, hq, e0, e1, e2, e3, e4, e5, e6, e7, fV⟩ := jf2 (HT.out.wrote bX.out) (i := 0) (x := x) rfl; rw [Nat.zero_mul, bC] at e0 e1 e2 e3 e4 e5 e6 e7; have mc := hid fV; have lq := hid (qz l6.out x (by simp)); clear fV h1; go_wp2_with fail; refine (cR.out x (d + 1) b g1 _ w1 _ _ _ _ _ _ ew.out (ju _) hG (na.out.low di.out hG) lq.out mc.out).mono ?_; rintro e w2 ⟨rfl, g2, cG, hW2⟩; rw [jn] at cG; have HE := hid (And.intro cG (cO.out.trans hW2)); clear cG hW2; go_wp2; go_end0; exact ⟨rfl, g2, HE.out⟩
   iterate 2
    . go_wp2_with fail; refine (jmu n cR.out tests (d + 1) b g1 _ w1 _ _ ew.out (ju _) hG (na.out.low di.out hG) l6.out (HT.out.wrote bX.out)).mono ?_; rintro e w2 ⟨rfl, g2, cG, hW2⟩; rw [jn] at cG; have HE := hid (And.intro cG (cO.out.trans hW2)); clear cG hW2; go_wp2; go_end0; exact ⟨rfl, g2, HE.out⟩
   . have wl : 1 <= mat /\ mat <= 3 := by
        have := nL.out; unfold jc8 cmpB at this
        simp [jfo] at this
        omega
     obtain ⟨m, rfl⟩ := Int.eq_ofNat_of_zero_le (show 0 <= mat by omega); have nB : m < 11 := by omega
     have Cq : (m : Int) < 11 := by omega
     have nA : (0 : Int) <= (m : Int) := by omega
     have hcm := (na.out.low di.out hG) 2 m (by omega) nB
     simp at hcm
     go_wp2_with fail; refine (j5 b g1 _ 2 (jN 2 m) w1 ew.out (ju _)).mono ?_; rintro e w3 ⟨rfl, g3, cH, hW3⟩; rw [jn] at cH; have fq := hid (hW3.box dB.out cE hs1); have hs3 := hW3.stay (k := w.heap.size) (aG w1 _ k0) hs1; have bZ := hid (bX.out.trans (ew.out.below hW3)); have dS := hid cH; have cP := hid (cO.out.trans hW3); clear cH hW3 hcm; clear k0 k1 k2 k3 k4 k5 k6 k7; obtain ⟨p0, p1, p2, p3, p4, p5, p6, p7⟩ := bx8 fq.out; go_wp2_with fail; refine (vB b g3 _ names _ _ w3 dS.out (ju _) (HN.out.wrote bZ.out)).mono ?_; rintro e w4 ⟨rfl, g4, gj, dr⟩; rw [jn] at gj; have ft := hid (dr.box fq.out cE hs3); have ch := hid (bZ.out.trans (dS.out.below dr)); have nY := hid gj; have lA := hid (cP.out.trans dr); clear gj dr p0 p1 p2 p3 p4 p5 p6 p7; obtain ⟨q0, q1, q2, q3, q4, q5, q6, q7⟩ := bx8 ft.out; go_wp2_with fail; refine (vB b g4 _ keys _ _ w4 nY.out (ju _) (HK.out.wrote ch.out)).mono ?_; rintro e w5 ⟨rfl, g5, kf, cQ⟩; rw [jn] at kf; have HE := hid (And.intro kf (lA.out.trans cQ)); clear kf cQ; go_wp2; go_end0; exact ⟨rfl, g5, by simpa [jay, vP, tagT, List.append_assoc] using HE.out.1, HE.out.2⟩
   iterate 2
    . have wl : 1 <= mat /\ mat <= 3 /\ 1 <= part /\ part <= 3 := by
       have := nL.out; unfold jc8 cmpB at this
       simp [jfo, jiW] at this
       omega
      obtain ⟨m, rfl⟩ := Int.eq_ofNat_of_zero_le (show 0 <= mat by omega); have nB : m < 11 := by omega
      have Cq : (m : Int) < 11 := by omega
      have nA : (0 : Int) <= (m : Int) := by omega
      obtain ⟨p, rfl⟩ := Int.eq_ofNat_of_zero_le (show 0 <= part by omega); have wu : p < 11 := by omega
      have Ds : (p : Int) < 11 := by omega
      have lQ : (0 : Int) <= (p : Int) := by omega
      have yr := (na.out.low di.out hG) 3 p (by omega) wu
      simp at yr
      go_wp2_with fail; refine (j5 b g1 _ 2 (jN 3 p) w1 ew.out (ju _)).mono ?_; rintro e w2 ⟨rfl, g2, cG, hW2⟩; rw [jn] at cG; have ec := hid (hW2.box dB.out cE hs1); have hs2 := hW2.stay (k := w.heap.size) (aG w1 _ k0) hs1; have dl := hid (di.out.trans (ew.out.below hW2)); have bY := hid (bX.out.trans (ew.out.below hW2)); have eP := hid cG; have dH := hid (cO.out.trans hW2); clear cG hW2 k0 k1 k2 k3 k4 k5 k6 k7 yr; obtain ⟨m0, m1, m2, m3, m4, m5, m6, m7⟩ := bx8 ec.out; have hcm := (na.out.low dl.out hG) 2 m (by omega) nB
      simp at hcm
      go_wp2_with fail; refine (j5 b g2 _ 2 (jN 2 m) w2 eP.out (ju _)).mono ?_; rintro e w3 ⟨rfl, g3, cH, hW3⟩; rw [jn] at cH; have fq := hid (hW3.box ec.out cE hs2); have hs3 := hW3.stay (k := w.heap.size) (aG w2 _ m0) hs2; have bZ := hid (bY.out.trans (eP.out.below hW3)); have dS := hid cH; have cP := hid (dH.out.trans hW3); clear cH hW3 hcm m0 m1 m2 m3 m4 m5 m6 m7; obtain ⟨p0, p1, p2, p3, p4, p5, p6, p7⟩ := bx8 fq.out; go_wp2_with fail; refine (vB b g3 _ names _ _ w3 dS.out (ju _) (HN.out.wrote bZ.out)).mono ?_; rintro e w4 ⟨rfl, g4, gj, dr⟩; rw [jn] at gj; have ft := hid (dr.box fq.out cE hs3); have ch := hid (bZ.out.trans (dS.out.below dr)); have nY := hid gj; have lA := hid (cP.out.trans dr); clear gj dr p0 p1 p2 p3 p4 p5 p6 p7; obtain ⟨q0, q1, q2, q3, q4, q5, q6, q7⟩ := bx8 ft.out; go_wp2_with fail; refine (vB b g4 _ keys _ _ w4 nY.out (ju _) (HK.out.wrote ch.out)).mono ?_; rintro e w5 ⟨rfl, g5, kf, cQ⟩; rw [jn] at kf; have HE := hid (And.intro kf (lA.out.trans cQ)); clear kf cQ; go_wp2; go_end0; exact ⟨rfl, g5, by simpa [jay, vP, tagT, List.append_assoc] using HE.out.1, HE.out.2⟩
   . go_wp2_with fail; refine (vB b g1 _ names _ _ w1 ew.out (ju _) (HN.out.wrote bX.out)).mono ?_; rintro e w2 ⟨rfl, g2, cG, hW2⟩; rw [jn] at cG; have HE := hid (And.intro cG (cO.out.trans hW2)); clear cG hW2; go_wp2; go_end0; exact ⟨rfl, g2, HE.out⟩
   . go_wp2_with fail; refine (jj2 b g1 _ over limit w1 ew.out (ju _)).mono ?_; rintro e w2 ⟨rfl, g2, cG, hW2⟩; rw [jn] at cG; have HE := hid (And.intro cG (cO.out.trans hW2)); clear cG hW2; go_wp2; go_end0; exact ⟨rfl, g2, HE.out⟩
theorem jac {c : Cmd} (h : jp (n + 1) d c = 0) : (1 <= c.kind /\ c.kind <= 10) /\ d <= 6 /\ jad c = true /\ (c.kind = 2 -> jt n 1 c.test = 0 /\ jj (jp n (d + 1)) c.thn = 0 /\ (match zt c.els with | some x => jp n d x | none => jj (jp n (d + 1)) c.els) = 0) := by
 rw [vI] at h
 by_cases h1 : oneP (jQ 0 c.kind) d (jad c) = 0
 . rw [if_neg (by simpa using h1)] at h; unfold oneP at h1; cases hk : jQ 0 c.kind with
   | false => rw [hk] at h1; simp at h1
   | true =>
     rw [hk] at h1; cases hf : jad c with
     | false => rw [hf] at h1; rcases bz 6 d with hd | hd <;> simp [hd, Nat.not_lt.2] at h1 <;> omega
     | true =>
       rw [hf] at h1; rw [jkP] at hk; simp only [aX, decide_eq_true_eq] at hk; refine ⟨hk, ?_, rfl, fun h2 => ?_⟩
       . rcases bz 6 d with hd | hd
         . rw [if_pos hd] at h1; simp at h1
         . exact hd
       . rw [if_neg (by simpa using h2)] at h
         by_cases q1 : jt n 1 c.test = 0
         . rw [if_neg (by simpa using q1)] at h
           by_cases q2 : jj (jp n (d + 1)) c.thn = 0
           . rw [if_neg (by simpa using q2)] at h; exact ⟨q1, q2, h⟩
           . rw [if_pos q2] at h; exact absurd h q2
         . rw [if_pos q1] at h; exact absurd h q1
 . rw [if_pos h1] at h; exact absurd h h1
theorem vd {c : Cmd} {ax an ak at' aa ae : Option Addr} {cx cn ck ct ca ce : Nat} (h : CmdM Q n w c [.int .i64 c.kind, .slice ax c.texts.length cx, .int .i64 c.test.kind, .int .i64 c.test.mat, .int .i64 c.test.part, .slice an c.test.names.length cn, .slice ak c.test.keys.length ck, .bool c.test.over, .int .i64 c.test.limit, .slice at' c.test.tests.length ct, .slice aa c.thn.length ca, .slice ae c.els.length ce]) : ∃ m, n = m + 1 /\ TxtsM Q w (.slice ax c.texts.length cx) c.texts /\ TstM Q m w c.test [.int .i64 c.test.kind, .int .i64 c.test.mat, .int .i64 c.test.part, .slice an c.test.names.length cn, .slice ak c.test.keys.length ck, .bool c.test.over, .int .i64 c.test.limit, .slice at' c.test.tests.length ct] /\ CmdsM Q m w (.slice aa c.thn.length ca) c.thn /\ CmdsM Q m w (.slice ae c.els.length ce) c.els := by
 obtain ⟨_, _, _, _, _, _, _, _, _, _, _, _, m, hm, he, h1, h2, h3, h4⟩ := zN h; simp only [List.cons.injEq, aE, true_and, and_true] at he; obtain ⟨⟨rfl, rfl⟩, ⟨rfl, rfl⟩, ⟨rfl, rfl⟩, ⟨rfl, rfl⟩, ⟨rfl, rfl⟩, rfl, rfl⟩ := he; exact ⟨m, hm, h1, h2, h3, h4⟩
def WrBr (n : Nat) : Prop := ∀ (c : Cmd) (d b : Nat) (g : Option Nat) (l : List Tok) (w : World) (ax an ak at' aa ae : Option Addr) (cx cn ck ct ca ce : Nat), WrB w b g l -> l.length <= 401 -> 3 < b -> WordsAt w -> jp n d c = 0 -> c.kind = 2 ->
    CmdM (und b) n w c [.int .i64 c.kind, .slice ax c.texts.length cx, .int .i64 c.test.kind, .int .i64 c.test.mat, .int .i64 c.test.part, .slice an c.test.names.length cn, .slice ak c.test.keys.length ck, .bool c.test.over, .int .i64 c.test.limit, .slice at' c.test.tests.length ct, .slice aa c.thn.length ca, .slice ae c.els.length ce] ->
    Calls Tryz.prog 200 #[.pointer (some ⟨b, 0, none⟩), .agg #[.int .i64 c.kind, .slice ax c.texts.length cx, .int .i64 c.test.kind, .int .i64 c.test.mat, .int .i64 c.test.part, .slice an c.test.names.length cn, .slice ak c.test.keys.length ck, .bool c.test.over, .int .i64 c.test.limit, .slice at' c.test.tests.length ct, .slice aa c.thn.length ca, .slice ae c.els.length ce]] w (Wd b g w l (jaU n c))
theorem jiv (n : Nat) (l : List Cmd) (k : Nat) (x : Cmd) (h : l[k]? = some x) : zp n (l.take (k + 1)) = zp n (l.take k) ++ cmdT n x := by
 have hk : k < l.length := (au.1 h).1; have hg : l[k] = x := (au.1 h).2; rw [aU hk, hg]
 simp [zp]
theorem jca (n : Nat) (ih : WrBr n) (cs : List Cmd) (d b : Nat) (g : Option Nat) (l : List Tok) (w : World) (a : Option Addr) (k : Nat) (hR : WrB w b g l) (hl : l.length <= 401) (hG : 3 < b) (hw : WordsAt w) (hF : jj (jp n d) cs = 0) (hT : CmdsM (und b) n w (.slice a cs.length k) cs) :
 Calls Tryz.prog 161 #[.pointer (some ⟨b, 0, none⟩), .slice a cs.length k] w (Wd b g w l (zp n cs)) := by
 have HR := hid hR; have HT := hid hT; have cR := hid ih; have HW := hid hw; have HF := hid hF; have hmx := hT.small; unfold maxLen at hmx; have rS := hid (show WrB w b g ((l ++ zp n (cs.take 0)).take 401) by
  simp only [List.take_zero, zp, List.flatMap_nil, bO]; rw [aV hl]; exact hR)
 clear hR hT ih hw hF; go_enter Tryz.func161, Tryz.ntmps161; go_wp2
 go_loopw [8] (fun v wr => ∃ (i : Nat) (g' : Option Nat), i <= cs.length /\ v = .int .i64 i /\ WrB wr b g' ((l ++ zp n (cs.take i)).take 401) /\ Wrote b g g' w wr) (fun v _ => cs.length - (intOf v).toNat)
 case atStart => exact ⟨0, g, aQ _, rfl, rS.out, Wrote.refl _ _ _⟩
 case round =>
  obtain ⟨i, g', hi, rfl, de, eZ⟩ := hrel; have dR := hid de; have dZ := hid eZ; have iq := HR.out.below eZ; have ke := HT.out.wrote iq
  by_cases hlt : i < cs.length
  . have i1 : (i : Int) < (cs.length : Int) := by omega
    have i3 : (0 : Int) <= (i : Int) := by omega
    obtain ⟨x, hx⟩ : ∃ x, cs[i]? = some x := ⟨_, aw hlt⟩; obtain ⟨q, o, ax, cx, an, cn, ak, ck, at', ct, aa, ca, ae, ce, rfl, hq, e0, e1, e2, e3, e4, e5, e6, e7, e8, e9, e10, e11, fV⟩ := jaX ke hx; have HS := hid (jiv n cs i x hx); have lq := hid (qz HF.out x (aF hx)); have mc := hid fV; have nn := HW.out.low iq hG; have fy := hid nn; obtain ⟨m, hm, cI, _⟩ := vd fV; subst hm; have dB := hid cI; obtain ⟨lh, _, eh, _⟩ := jac lq.out; have hbl := de.lt; have dD := de.fresh; obtain ⟨W0, hW0⟩ : ∃ W0, W0 = wr.alloc (.cells #[.int .i64 x.kind, .slice ax x.texts.length cx, .int .i64 x.test.kind, .int .i64 x.test.mat, .int .i64 x.test.part, .slice an x.test.names.length cn, .slice ak x.test.keys.length ck, .bool x.test.over, .int .i64 x.test.limit, .slice at' x.test.tests.length ct, .slice aa x.thn.length ca, .slice ae x.els.length ce] 201) := ⟨_, rfl⟩; have cw : Below wr.heap.size wr W0 := by rw [hW0]; exact nb0 _ _
    have hH : W0.heap[wr.heap.size]? = some (.cells #[.int .i64 x.kind, .slice ax x.texts.length cx, .int .i64 x.test.kind, .int .i64 x.test.mat, .int .i64 x.test.part, .slice an x.test.names.length cn, .slice ak x.test.keys.length ck, .bool x.test.over, .int .i64 x.test.limit, .slice at' x.test.tests.length ct, .slice aa x.thn.length ca, .slice ae x.els.length ce] 201) := by rw [hW0]; exact az wr _
    obtain ⟨f0, f1, f2, f3, f4, f5, f6, f7, f8, f9, f10, f11⟩ := bx12 hH; have b9 := hid hW0; have cu := hid cw; have cE : wr.heap.size ≠ b := by omega
    have eE := aG W0 _ f0; have BS : 3 < wr.heap.size := by omega
    obtain ⟨kk, eD⟩ := Int.eq_ofNat_of_zero_le (show 0 <= x.kind by omega); have lI : kk < 11 := by omega
    have pO : (kk : Int) < 11 := by omega
    have fF : (0 : Int) <= (kk : Int) := by omega
    have hc := nn 0 kk (by omega) lI
    simp at hc
    have tg := hid (show jN 0 x.kind.toNat = jN 0 kk by rw [eD]; rfl); have xh := hid eD; rw [eD] at f0 e0; clear hx ke de eZ fV iq hW0 cw hH nn cI eD; go_wp2_with fail; rw [<- xh.out, <- b9.out]; refine (j5 b g' _ 1 (jN 0 kk) W0 (dR.out.next cu.out) (ju _)).mono ?_; rintro e w1 ⟨rfl, g1, eF, hW1⟩; rw [jn] at eF; have k0 := hW1.cellAt f0 cE dD; have k1 := hW1.cellAt f1 cE dD; have k2 := hW1.cellAt f2 cE dD; have k3 := hW1.cellAt f3 cE dD; have k4 := hW1.cellAt f4 cE dD; have k5 := hW1.cellAt f5 cE dD; have k6 := hW1.cellAt f6 cE dD; have k7 := hW1.cellAt f7 cE dD; have k8 := hW1.cellAt f8 cE dD; have k9 := hW1.cellAt f9 cE dD; have k10 := hW1.cellAt f10 cE dD; have k11 := hW1.cellAt f11 cE dD; have hs1 := hW1.stay (k := wr.heap.size) eE dD; have di := hid ((dR.out.next cu.out).below hW1); have bX := hid ((cu.out.mono (bi hbl)).trans di.out); have ew := hid eF; have cO := hid ((dZ.out.trans (Wrote.of cu.out)).trans hW1); clear eF hW1 hc f0 f1 f2 f3 f4 f5 f6 f7 f8 f9 f10 f11 e0 e1 e2 e3 e4 e5 e6 e7 e8 e9 e10 e11; rw [<- xh.out] at k0; have nc := hid ((fy.out.next cu.out).low di.out hG)
    by_cases h2 : x.kind = 2
    . have dW : (x.kind == 2) = true := by simp [h2]
      have H2 := hid h2; clear h2; have tS := hid ((mc.out.next cu.out).wrote di.out); go_wp2_with fail; refine (cR.out x d b g1 _ w1 _ _ _ _ _ _ _ _ _ _ _ _ ew.out (ju _) hG nc.out lq.out H2.out tS.out).mono ?_; rintro e w2 ⟨rfl, g2, cG, hW2⟩; rw [jn] at cG; have eP := hid (show WrB w2 b g2 ((l ++ zp (m + 1) (cs.take (i + 1))).take 401) by
       rw [HS.out, cmdT, tg.out]
       simpa [vP] using cG)
      have dH := hid (cO.out.trans hW2); clear cG hW2 k0 k1 k2 k3 k4 k5 k6 k7 k8 k9 k10 k11; go_wp2; exact ⟨⟨i + 1, g2, by omega, by go_num, eP.out, dH.out⟩, by simp [intOf]; omega⟩
    . have dW : (x.kind == 2) = false := by simp [h2]
      have ma := hid (show jaU (m + 1) x = (if x.texts.length = 0 then [] else jcg x.texts) ++ [jT 59] by
       unfold jaU; rw [if_neg h2])
      clear h2
      by_cases h0 : 0 < x.texts.length
      . have uc : (0 : Int) < (x.texts.length : Int) := by omega
        go_wp2_with fail; refine (vB b g1 _ x.texts _ _ w1 ew.out (ju _) (((dB.out.next cu.out)).wrote di.out)).mono ?_; rintro e w2 ⟨rfl, g2, cG, hW2⟩; rw [jn] at cG; have eP := hid cG; have dH := hid (cO.out.trans hW2); clear cG hW2 k0 k1 k2 k3 k4 k5 k6 k7 k8 k9 k10 k11; go_wp2_with fail; refine (j5 b g2 _ 5 [59] w2 eP.out (ju _)).mono ?_; rintro e w3 ⟨rfl, g3, cH, hW3⟩; rw [jn] at cH; have dS := hid (show WrB w3 b g3 ((l ++ zp (m + 1) (cs.take (i + 1))).take 401) by
            rw [HS.out, cmdT, tg.out, ma.out, if_neg (by omega)]
            simpa [vP, jT, List.append_assoc] using cH)
        have cP := hid (dH.out.trans hW3); clear cH hW3; go_wp2; exact ⟨⟨i + 1, g3, by omega, by go_num, dS.out, cP.out⟩, by simp [intOf]; omega⟩
      . have uc : ¬ (0 : Int) < (x.texts.length : Int) := by omega
        go_wp2_with fail; refine (j5 b g1 _ 5 [59] w1 ew.out (ju _)).mono ?_; rintro e w3 ⟨rfl, g3, cH, hW3⟩; rw [jn] at cH; have dS := hid (show WrB w3 b g3 ((l ++ zp (m + 1) (cs.take (i + 1))).take 401) by
            rw [HS.out, cmdT, tg.out, ma.out, if_pos (by omega)]
            simpa [vP, jT, List.append_assoc] using cH)
        have cP := hid (cO.out.trans hW3); clear cH hW3 k0 k1 k2 k3 k4 k5 k6 k7 k8 k9 k10 k11; go_wp2; exact ⟨⟨i + 1, g3, by omega, by go_num, dS.out, cP.out⟩, by simp [intOf]; omega⟩
  . have i1 : ¬ (i : Int) < (cs.length : Int) := by omega
    obtain rfl : i = cs.length := by omega
    have HE := hid (show Wd b g w l (zp n cs) (.returned (.tuple #[])) wr from ⟨rfl, g', by rw [List.take_length] at de; exact de, eZ⟩); clear ke de eZ iq; go_wp2; go_end0; exact HE.out
theorem jc3 (n : Nat) (ih : WrBr n) (cs : List Cmd) (d b : Nat) (g : Option Nat) (l : List Tok) (w : World) (a : Option Addr) (k : Nat) (hR : WrB w b g l) (hl : l.length <= 401) (hG : 3 < b) (hw : WordsAt w) (hF : jj (jp n d) cs = 0) (hT : CmdsM (und b) n w (.slice a cs.length k) cs) :
 Calls Tryz.prog 229 #[.pointer (some ⟨b, 0, none⟩), .slice a cs.length k] w (Wd b g w l (jT 123 :: (zp n cs ++ [jT 125]))) := by
 have HR := hid hR; have HT := hid hT; have cR := hid ih; have HW := hid hw; have HF := hid hF; clear hR hT ih hw hF; go_enter Tryz.func229, Tryz.ntmps229; go_wp2_with fail; refine (j5 b g l 5 [123] w HR.out hl).mono ?_; rintro e w1 ⟨rfl, g1, eF, hW1⟩; have ew := hid eF; have cO := hid hW1; have di := hid (HR.out.below hW1); clear eF hW1; go_wp2_with fail; refine (jca n cR.out cs d b g1 _ w1 a k ew.out (ju _) hG (HW.out.low di.out hG) HF.out (HT.out.wrote di.out)).mono ?_; rintro e w2 ⟨rfl, g2, cG, hW2⟩; rw [jn] at cG; have eP := hid cG; have dH := hid (cO.out.trans hW2); clear cG hW2; go_wp2_with fail; refine (j5 b g2 _ 5 [125] w2 eP.out (ju _)).mono ?_; rintro e w3 ⟨rfl, g3, cH, hW3⟩; rw [jn] at cH; have HE := hid (show Wd b g w l (jT 123 :: (zp n cs ++ [jT 125])) (.returned (.tuple #[])) w3 from ⟨rfl, g3, by simpa [jT, List.append_assoc] using cH, dH.out.trans hW3⟩); clear cH hW3; go_wp2; go_end0; exact HE.out
def jfV (m : Nat) (c : Cmd) : List Tok :=
 match zt c.els with
 | some x => vP jab :: jaU m x
 | none => if c.els.length = 0 then [] else vP jc7 :: (jT 123 :: (zp m c.els ++ [jT 125]))
theorem jh3 (m : Nat) (c : Cmd) (h : c.kind = 2) : jaU (m + 1) c = jay m c.test ++ ((jT 123 :: (zp m c.thn ++ [jT 125])) ++ jfV m c) := by
 rw [jaU, if_pos h, aH]; unfold jfV zp cmdT; cases zt c.els with
 | some x => rfl
 | none => rfl
def vZ : Nat -> World -> Value -> Nat
 | 0, _, _ => 0
 | f + 1, w, .slice (some a) 1 _ => (match w.cell? ⟨a.block, a.off, none⟩ with
     | some (.int .i64 2) => (match w.cell? ⟨a.block, a.off + 11, none⟩ with | some v => 1 + vZ f w v | none => 1)
     | _ => 0)
 | _ + 1, _, _ => 0
def vS : Nat -> List Cmd -> Nat
 | 0, _ => 0
 | f + 1, els => match zt els with | some x => 1 + vS f x.els | none => 0
theorem jhA : ∀ (f m : Nat) (els : List Cmd) (v : Value), CmdsM Q m w v els -> vZ f w v = vS f els := by
 intro f
 induction f with
 | zero => intro m els v _; rfl
 | succ f ih =>
   intro m els v h; obtain ⟨a, c, rfl⟩ := h.slice; unfold vS; cases he : zt els with
   | some x =>
     obtain ⟨rfl, hk⟩ := vH he; obtain ⟨q, o, ax, cx, an, cn, ak, ck, at', ct, aa, ca, ae, ce, rfl, hq, e0, e1, e2, e3, e4, e5, e6, e7, e8, e9, e10, e11, hx⟩ := jaX h (i := 0) (x := x) rfl; rw [Nat.zero_mul, bC] at e0 e11; obtain ⟨k, _, _, _, _, h4⟩ := vd hx; have := ih k x.els _ h4; simp only [vZ, List.length_singleton, e0, e11, hk]; rw [this]
   | none =>
     by_cases h1 : els.length = 1
     . obtain ⟨x, rfl⟩ : ∃ x, els = [x] := List.length_eq_one_iff.1 h1; have hk : x.kind ≠ 2 := by
        intro hk
        simp [zt, hk] at he
       obtain ⟨q, o, ax, cx, an, cn, ak, ck, at', ct, aa, ca, ae, ce, rfl, hq, e0, _⟩ := jaX h (i := 0) (x := x) rfl; rw [Nat.zero_mul, bC] at e0; simp only [vZ, List.length_singleton, e0]; split
       . rename_i h; simp at h; exact absurd h hk
       . rfl
     . cases a with
       | none => rfl
       | some a =>
         unfold vZ; split
         . rename_i hh; simp at hh
         . rename_i Di Dj Ce; simp at Ce; omega
         . rfl
theorem jit : ∀ (m f : Nat) (x : Cmd) (cs : List Value), CmdM Q m w x cs -> m <= f -> vS (f + 1) x.els = vS f x.els := by
 intro m
 induction m with
 | zero => intro f x cs h _; exact h.elim
 | succ m ih =>
   intro f x cs h hf; cases f with
   | zero => omega
   | succ f =>
     obtain ⟨vx, vn, vk, vt, va, ve, h0, h1, h2, h3, h4⟩ := h; rw [vS, vS]; cases he : zt x.els with
     | none => rfl
     | some y =>
       obtain ⟨hl, _⟩ := vH he; obtain ⟨a, c, _, _, hr⟩ := h4; obtain ⟨b, o, cs', _, _, _, _, _, hy⟩ := hr 0 y (by rw [hl]; rfl); simp only; rw [ih f y cs' hy (by omega)]
theorem Wrote.far (h : Wrote b g g' w w') (hn : w.heap.size <= n) (o : Nat) (v : Value) : Wrote b g g' w (w'.setCell ⟨n, o, none⟩ v) :=
 ⟨h.os, h.tape, h.output, by have := h.size; simpa [World.setCell] using this, fun k hk hb hg => (aC _ _ _ _ (by show k ≠ n; omega)).trans (h.block k hk hb hg), h.row⟩
theorem WrB.far (h : WrB w b g l) (hb : b ≠ n) (hg : g ≠ some n) (o : Nat) (v : Value) : WrB (w.setCell ⟨n, o, none⟩ v) b g l := by
 obtain ⟨a, c, h1, h2, h3⟩ := h; refine ⟨a, c, (aC _ _ _ _ hb).trans h1, h2, h3.1, ?_⟩
 rcases h3.2 with q | ⟨k, cap, cur, e, hk, gv, r⟩
 . exact .inl q
 . refine .inr ⟨k, cap, cur, e, hk, ?_, r⟩; have hne : k ≠ n := by
    intro e'
    apply hg
    rw [<- h2, e, e']; rfl
   exact (aC _ _ _ _ hne).trans gv
theorem jdl (n : Nat) (ih : ∀ m, m <= n -> WrBr m) : WrBr (n + 1) := by
 intro c d b g l w ax an ak at' aa ae cx cn ck ct ca ce hR hl hG hw hF h2 hC; obtain ⟨_, oq, _, hF2⟩ := jac hF; obtain ⟨xH, xI, rY⟩ := hF2 h2; obtain ⟨m0, nA, cI, eA, df, kg⟩ := vd hC; obtain rfl : n = m0 := by omega
 have ma := hid (jh3 n c h2); have cR := hid ih; have HR := hid hR; have HW := hid hw; have ec := hid eA; have fq := hid df; have HC := hid hC; have HF := hid hF; have oN := hid xH; have oO := hid xI; have H2 := hid h2; have hbl := hR.lt; have dD := hR.fresh; have cE : w.heap.size ≠ b := by omega
 have dg : b ≠ w.heap.size := by omega
 obtain ⟨W0, hW0⟩ : ∃ W0, W0 = w.alloc (.cells #[.int .i64 c.kind, .slice ax c.texts.length cx, .int .i64 c.test.kind, .int .i64 c.test.mat, .int .i64 c.test.part, .slice an c.test.names.length cn, .slice ak c.test.keys.length ck, .bool c.test.over, .int .i64 c.test.limit, .slice at' c.test.tests.length ct, .slice aa c.thn.length ca, .slice ae c.els.length ce] 201) := ⟨_, rfl⟩; have cw : Below w.heap.size w W0 := by rw [hW0]; exact nb0 _ _
 have hH : W0.heap[w.heap.size]? = some (.cells #[.int .i64 c.kind, .slice ax c.texts.length cx, .int .i64 c.test.kind, .int .i64 c.test.mat, .int .i64 c.test.part, .slice an c.test.names.length cn, .slice ak c.test.keys.length ck, .bool c.test.over, .int .i64 c.test.limit, .slice at' c.test.tests.length ct, .slice aa c.thn.length ca, .slice ae c.els.length ce] 201) := by rw [hW0]; exact az w _
 have eE : w.heap.size < W0.heap.size := by rw [hW0]; simp
 have kN := hid hH; have b9 := hid hW0; have cu := hid cw; clear cI eA df kg hC hF hF2 xH xI rY h2 nA cw hH ih hw hR; go_enter Tryz.func200, Tryz.ntmps200; go_wp2_with fail; rw [<- b9.out]; refine (jf7 n c.test 1 b g l W0 _ _ _ _ _ _ (HR.out.next cu.out) hl hG (HW.out.next cu.out) oN.out (ec.out.next cu.out)).mono ?_; rintro e w1 ⟨rfl, g1, eF, hW1⟩; have oa : w1.heap[w.heap.size]? = some (.cells #[.int .i64 c.kind, .slice ax c.texts.length cx, .int .i64 c.test.kind, .int .i64 c.test.mat, .int .i64 c.test.part, .slice an c.test.names.length cn, .slice ak c.test.keys.length ck, .bool c.test.over, .int .i64 c.test.limit, .slice at' c.test.tests.length ct, .slice aa c.thn.length ca, .slice ae c.els.length ce] 201) := (hW1.block _ eE cE (fun e => dD e.symm)).trans kN.out; have k10 : w1.cell? ⟨w.heap.size, 10, none⟩ = some (.slice aa c.thn.length ca) := by simp [World.cell?, oa]
 have hs1 := hW1.stay (k := w.heap.size) eE dD; have di := hid ((HR.out.next cu.out).below hW1); have bX := hid ((cu.out.mono (bi hbl)).trans di.out); have cF : w.heap.size < w1.heap.size := aK eE hW1.size; have ew := hid eF; have cO := hid ((Wrote.of cu.out).trans hW1); have nc := hid (HW.out.low bX.out hG); have AJ := hid oa; clear eF hW1 oa; go_wp2_with fail; refine (jc3 n (cR.out n (ai _)) c.thn (d + 1) b g1 _ w1 _ _ ew.out (ju _) hG nc.out oO.out (fq.out.wrote bX.out)).mono ?_; rintro e w2 ⟨rfl, g2, cG, hW2⟩; rw [jn] at cG; have eP := hid cG; have AK := hid (show w2.heap[w.heap.size]? = some (.cells #[.int .i64 c.kind, .slice ax c.texts.length cx, .int .i64 c.test.kind, .int .i64 c.test.mat, .int .i64 c.test.part, .slice an c.test.names.length cn, .slice ak c.test.keys.length ck, .bool c.test.over, .int .i64 c.test.limit, .slice at' c.test.tests.length ct, .slice aa c.thn.length ca, .slice ae c.els.length ce] 201) from (hW2.block _ cF cE (fun e => hs1 e.symm)).trans AJ.out); have hs2 := hW2.stay (k := w.heap.size) cF hs1; have gw : w.heap.size < w2.heap.size := aK cF hW2.size; have bY := hid (bX.out.trans (ew.out.below hW2)); have dH := hid (cO.out.trans hW2); clear cG hW2 k10; go_wp2
 go_loopw [12] (fun _ wr => ∃ (m : Nat) (c' : Cmd) (ax an ak at' aa ae : Option Addr) (cx cn ck ct ca ce : Nat) (g' : Option Nat) (pre : List Tok), wr.heap[w.heap.size]? = some (.cells #[.int .i64 c'.kind, .slice ax c'.texts.length cx, .int .i64 c'.test.kind, .int .i64 c'.test.mat, .int .i64 c'.test.part, .slice an c'.test.names.length cn, .slice ak c'.test.keys.length ck, .bool c'.test.over, .int .i64 c'.test.limit, .slice at' c'.test.tests.length ct, .slice aa c'.thn.length ca, .slice ae c'.els.length ce] 201) /\ CmdM (und b) (m + 1) wr c' [.int .i64 c'.kind, .slice ax c'.texts.length cx, .int .i64 c'.test.kind, .int .i64 c'.test.mat, .int .i64 c'.test.part, .slice an c'.test.names.length cn, .slice ak c'.test.keys.length ck, .bool c'.test.over, .int .i64 c'.test.limit, .slice at' c'.test.tests.length ct, .slice aa c'.thn.length ca, .slice ae c'.els.length ce] /\ m <= n /\ jp (m + 1) d c' = 0 /\ c'.kind = 2 /\
  WrB wr b g' ((l ++ pre).take 401) /\ Hid (jaU (n + 1) c = pre ++ jfV m c') /\ Wrote b g g' w wr /\ g' ≠ some w.heap.size /\ w.heap.size < wr.heap.size)
  (fun _ wr => match wr.cell? ⟨w.heap.size, 11, none⟩ with | some v => vZ (n + 1) wr v | none => 0)
 case atStart => exact ⟨n, c, ax, an, ak, at', aa, ae, cx, cn, ck, ct, ca, ce, g2, jay n c.test ++ (jT 123 :: (zp n c.thn ++ [jT 125])), AK.out, HC.out.wrote bY.out, ai _, HF.out, H2.out, eP.out, by unfold Hid; rw [ma.out, aH], dH.out, hs2, gw⟩
 case round =>
  obtain ⟨m, c', ax, an, ak, at', aa, ae, cx, cn, ck, ct, ca, ce, g', pre, uq, xF, Cr, xM, h2r, yi, nk, eZ, gA, pR⟩ := hrel; obtain ⟨_, _, _, hF2⟩ := jac xM; obtain ⟨_, _, rY⟩ := hF2 h2r; obtain ⟨m0, nA, _, _, _, kg⟩ := vd xF; obtain rfl : m = m0 := by omega
  have iq := HR.out.below eZ; have dZ := hid eZ; have rT := hid yi; have ft := hid kg; have dP := hid uq; have HL := hid iq; have fy := hid (HW.out.low iq hG); have r11 : wr.cell? ⟨w.heap.size, 11, none⟩ = some (.slice ae c'.els.length ce) := by simp [World.cell?, uq]
  have HM := hid (show (match wr.cell? ⟨w.heap.size, 11, none⟩ with | some v => vZ (n + 1) wr v | none => 0) = vS (n + 1) c'.els by rw [r11]; exact jhA (n + 1) m c'.els _ kg); clear hF2 uq xF xM h2r yi eZ kg nA iq; have xa := hid rY; clear rY; go_wp2_with fail; refine (jcI m c'.els ae ce wr (RowM.imp ft.out (fun _ _ => trivial) (Keeps.refl _ _) fun _ _ h => CmdM.imp (fun _ _ => trivial) (Keeps.refl _ _) _ _ _ h)).mono ?_; rintro e u ⟨rfl, hu⟩; have b6 := hu.symm; subst b6; cases he : zt c'.els with
  | some x =>
    obtain ⟨gr, ov⟩ := vH he; have dV : c'.els.length = 1 := by rw [gr]; rfl
    have pw : jp m d x = 0 := by have := xa.out; rw [he] at this; exact this
    have rR := hid (show jfV m c' = vP jab :: jaU m x by unfold jfV; rw [he]); have A4 := hid (show vS (n + 1) c'.els = 1 + vS n x.els by rw [vS, he]); obtain ⟨q, o, ax2, cx2, an2, cn2, ak2, ck2, at2, ct2, aa2, ca2, ae2, ce2, rfl, hq, e0, e1, e2, e3, e4, e5, e6, e7, e8, e9, e10, e11, fV⟩ := jaX ft.out (i := 0) (x := x) (by rw [gr]; rfl); rw [Nat.zero_mul, bC] at e0 e1 e2 e3 e4 e5 e6 e7 e8 e9 e10 e11; obtain ⟨m', lK, _, yj, yk, B3⟩ := vd fV; subst lK; obtain ⟨_, _, _, px⟩ := jac pw; obtain ⟨xO, xP, _⟩ := px ov; have Bo := hid (jh3 m' x ov); have mc := hid fV; have i7 := hid yj; have lB := hid yk; have lq := hid pw; have mN := hid xO; have iy := hid xP; have ti := hid ov; have p0 : wr.cell? ⟨w.heap.size, 0, none⟩ = some (.int .i64 c'.kind) := by simp [World.cell?, dP.out]
    have p1 : wr.cell? ⟨w.heap.size, 1, none⟩ = some (.slice ax c'.texts.length cx) := by simp [World.cell?, dP.out]
    have p2 : wr.cell? ⟨w.heap.size, 2, none⟩ = some (.int .i64 c'.test.kind) := by simp [World.cell?, dP.out]
    have p3 : wr.cell? ⟨w.heap.size, 3, none⟩ = some (.int .i64 c'.test.mat) := by simp [World.cell?, dP.out]
    have p4 : wr.cell? ⟨w.heap.size, 4, none⟩ = some (.int .i64 c'.test.part) := by simp [World.cell?, dP.out]
    have p5 : wr.cell? ⟨w.heap.size, 5, none⟩ = some (.slice an c'.test.names.length cn) := by simp [World.cell?, dP.out]
    have p6 : wr.cell? ⟨w.heap.size, 6, none⟩ = some (.slice ak c'.test.keys.length ck) := by simp [World.cell?, dP.out]
    have p7 : wr.cell? ⟨w.heap.size, 7, none⟩ = some (.bool c'.test.over) := by simp [World.cell?, dP.out]
    have p8 : wr.cell? ⟨w.heap.size, 8, none⟩ = some (.int .i64 c'.test.limit) := by simp [World.cell?, dP.out]
    have p9 : wr.cell? ⟨w.heap.size, 9, none⟩ = some (.slice at' c'.test.tests.length ct) := by simp [World.cell?, dP.out]
    have p10 : wr.cell? ⟨w.heap.size, 10, none⟩ = some (.slice aa c'.thn.length ca) := by simp [World.cell?, dP.out]
    have p11 : wr.cell? ⟨w.heap.size, 11, none⟩ = some (.slice (some ⟨q, o, none⟩) c'.els.length ce) := by simp [World.cell?, dP.out]
    have z0 : wr.frozen? ⟨w.heap.size, 0, none⟩ = false := by simp [World.frozen?, dP.out]
    have z1 : wr.frozen? ⟨w.heap.size, 1, none⟩ = false := by simp [World.frozen?, dP.out]
    have z2 : wr.frozen? ⟨w.heap.size, 2, none⟩ = false := by simp [World.frozen?, dP.out]
    have z3 : wr.frozen? ⟨w.heap.size, 3, none⟩ = false := by simp [World.frozen?, dP.out]
    have z4 : wr.frozen? ⟨w.heap.size, 4, none⟩ = false := by simp [World.frozen?, dP.out]
    have z5 : wr.frozen? ⟨w.heap.size, 5, none⟩ = false := by simp [World.frozen?, dP.out]
    have z6 : wr.frozen? ⟨w.heap.size, 6, none⟩ = false := by simp [World.frozen?, dP.out]
    have z7 : wr.frozen? ⟨w.heap.size, 7, none⟩ = false := by simp [World.frozen?, dP.out]
    have z8 : wr.frozen? ⟨w.heap.size, 8, none⟩ = false := by simp [World.frozen?, dP.out]
    have z9 : wr.frozen? ⟨w.heap.size, 9, none⟩ = false := by simp [World.frozen?, dP.out]
    have z10 : wr.frozen? ⟨w.heap.size, 10, none⟩ = false := by simp [World.frozen?, dP.out]
    have z11 : wr.frozen? ⟨w.heap.size, 11, none⟩ = false := by simp [World.frozen?, dP.out]
    obtain ⟨W1, hW1⟩ : ∃ W1, W1 = ((((((((((((wr.setCell ⟨w.heap.size, 0, none⟩ (.int .i64 x.kind)).setCell ⟨w.heap.size, 1, none⟩ (.slice ax2 x.texts.length cx2)).setCell ⟨w.heap.size, 2, none⟩ (.int .i64 x.test.kind)).setCell ⟨w.heap.size, 3, none⟩ (.int .i64 x.test.mat)).setCell ⟨w.heap.size, 4, none⟩ (.int .i64 x.test.part)).setCell ⟨w.heap.size, 5, none⟩ (.slice an2 x.test.names.length cn2)).setCell ⟨w.heap.size, 6, none⟩ (.slice ak2 x.test.keys.length ck2)).setCell ⟨w.heap.size, 7, none⟩ (.bool x.test.over)).setCell ⟨w.heap.size, 8, none⟩ (.int .i64 x.test.limit)).setCell ⟨w.heap.size, 9, none⟩ (.slice at2 x.test.tests.length ct2)).setCell ⟨w.heap.size, 10, none⟩ (.slice aa2 x.thn.length ca2)).setCell ⟨w.heap.size, 11, none⟩ (.slice ae2 x.els.length ce2)) := ⟨_, rfl⟩; have oa : W1.heap[w.heap.size]? = some (.cells #[.int .i64 x.kind, .slice ax2 x.texts.length cx2, .int .i64 x.test.kind, .int .i64 x.test.mat, .int .i64 x.test.part, .slice an2 x.test.names.length cn2, .slice ak2 x.test.keys.length ck2, .bool x.test.over, .int .i64 x.test.limit, .slice at2 x.test.tests.length ct2, .slice aa2 x.thn.length ca2, .slice ae2 x.els.length ce2] 201) := by
        have a0 := jk (i := 0) (.int .i64 x.kind) dP.out; have a1 := jk (i := 1) (.slice ax2 x.texts.length cx2) a0; have a2 := jk (i := 2) (.int .i64 x.test.kind) a1; have a3 := jk (i := 3) (.int .i64 x.test.mat) a2; have a4 := jk (i := 4) (.int .i64 x.test.part) a3; have a5 := jk (i := 5) (.slice an2 x.test.names.length cn2) a4; have a6 := jk (i := 6) (.slice ak2 x.test.keys.length ck2) a5; have a7 := jk (i := 7) (.bool x.test.over) a6; have a8 := jk (i := 8) (.int .i64 x.test.limit) a7; have a9 := jk (i := 9) (.slice at2 x.test.tests.length ct2) a8; have a10 := jk (i := 10) (.slice aa2 x.thn.length ca2) a9; have a11 := jk (i := 11) (.slice ae2 x.els.length ce2) a10; rw [hW1, a11]
        simp
    have ph := hid (show WrB W1 b g' ((l ++ pre).take 401) by rw [hW1]; exact ((((((((((((rT.out.far dg gA 0 (.int .i64 x.kind)).far dg gA 1 (.slice ax2 x.texts.length cx2)).far dg gA 2 (.int .i64 x.test.kind)).far dg gA 3 (.int .i64 x.test.mat)).far dg gA 4 (.int .i64 x.test.part)).far dg gA 5 (.slice an2 x.test.names.length cn2)).far dg gA 6 (.slice ak2 x.test.keys.length ck2)).far dg gA 7 (.bool x.test.over)).far dg gA 8 (.int .i64 x.test.limit)).far dg gA 9 (.slice at2 x.test.tests.length ct2)).far dg gA 10 (.slice aa2 x.thn.length ca2)).far dg gA 11 (.slice ae2 x.els.length ce2))); have tU := hid (show Wrote b g g' w W1 by rw [hW1]; exact ((((((((((((dZ.out.far (ai _) 0 (.int .i64 x.kind)).far (ai _) 1 (.slice ax2 x.texts.length cx2)).far (ai _) 2 (.int .i64 x.test.kind)).far (ai _) 3 (.int .i64 x.test.mat)).far (ai _) 4 (.int .i64 x.test.part)).far (ai _) 5 (.slice an2 x.test.names.length cn2)).far (ai _) 6 (.slice ak2 x.test.keys.length ck2)).far (ai _) 7 (.bool x.test.over)).far (ai _) 8 (.int .i64 x.test.limit)).far (ai _) 9 (.slice at2 x.test.tests.length ct2)).far (ai _) 10 (.slice aa2 x.thn.length ca2)).far (ai _) 11 (.slice ae2 x.els.length ce2))); have tm := hid (show Below b wr W1 by rw [hW1]; exact ((((((((((((((((((((((((ay b wr).setCell (show b <= w.heap.size by omega) (.int .i64 x.kind))).setCell (show b <= w.heap.size by omega) (.slice ax2 x.texts.length cx2))).setCell (show b <= w.heap.size by omega) (.int .i64 x.test.kind))).setCell (show b <= w.heap.size by omega) (.int .i64 x.test.mat))).setCell (show b <= w.heap.size by omega) (.int .i64 x.test.part))).setCell (show b <= w.heap.size by omega) (.slice an2 x.test.names.length cn2))).setCell (show b <= w.heap.size by omega) (.slice ak2 x.test.keys.length ck2))).setCell (show b <= w.heap.size by omega) (.bool x.test.over))).setCell (show b <= w.heap.size by omega) (.int .i64 x.test.limit))).setCell (show b <= w.heap.size by omega) (.slice at2 x.test.tests.length ct2))).setCell (show b <= w.heap.size by omega) (.slice aa2 x.thn.length ca2))).setCell (show b <= w.heap.size by omega) (.slice ae2 x.els.length ce2))); have ku : w.heap.size < W1.heap.size := by rw [hW1]; simpa [World.setCell] using pR
    have s9 := hid oa; have mZ := hid hW1; clear hW1 oa he gr ov pw fV yj yk B3 px xO xP; rw [dV] at r11 p11; rw [dV]; go_wp2_with fail; rw [<- mZ.out]; refine (j5 b g' _ 1 jab W1 ph.out (ju _)).mono ?_; rintro e w3 ⟨rfl, g3, cH, hW3⟩; rw [jn] at cH; have ob : w3.heap[w.heap.size]? = some (.cells #[.int .i64 x.kind, .slice ax2 x.texts.length cx2, .int .i64 x.test.kind, .int .i64 x.test.mat, .int .i64 x.test.part, .slice an2 x.test.names.length cn2, .slice ak2 x.test.keys.length ck2, .bool x.test.over, .int .i64 x.test.limit, .slice at2 x.test.tests.length ct2, .slice aa2 x.thn.length ca2, .slice ae2 x.els.length ce2] 201) := (hW3.block _ ku cE (fun e => gA e.symm)).trans s9.out; have hs3 := hW3.stay (k := w.heap.size) ku gA; have fh : w.heap.size < w3.heap.size := aK ku hW3.size; have l7 := hid (tm.out.trans (ph.out.below hW3)); have dS := hid cH; have cP := hid (tU.out.trans hW3); obtain ⟨t0, t1, t2, t3, t4, t5, t6, t7, t8, t9, t10, t11⟩ := bx12 ob; have kP := hid ob; clear cH hW3 ob r11 p0 p1 p2 p3 p4 p5 p6 p7 p8 p9 p10 p11 z0 z1 z2 z3 z4 z5 z6 z7 z8 z9 z10 z11 e0 e1 e2 e3 e4 e5 e6 e7 e8 e9 e10 e11; go_wp2_with fail; refine (jf7 m' x.test 1 b g3 _ w3 _ _ _ _ _ _ dS.out (ju _) hG (fy.out.low l7.out hG) mN.out (i7.out.wrote l7.out)).mono ?_; rintro e w4 ⟨rfl, g4, gj, dr⟩; rw [jn] at gj; have um : w4.heap[w.heap.size]? = some (.cells #[.int .i64 x.kind, .slice ax2 x.texts.length cx2, .int .i64 x.test.kind, .int .i64 x.test.mat, .int .i64 x.test.part, .slice an2 x.test.names.length cn2, .slice ak2 x.test.keys.length ck2, .bool x.test.over, .int .i64 x.test.limit, .slice at2 x.test.tests.length ct2, .slice aa2 x.thn.length ca2, .slice ae2 x.els.length ce2] 201) := (dr.block _ fh cE (fun e => hs3 e.symm)).trans kP.out; have eT := dr.stay (k := w.heap.size) fh hs3; have ei : w.heap.size < w4.heap.size := aK fh dr.size; have tn := hid (l7.out.trans (dS.out.below dr)); have nY := hid gj; have lA := hid (cP.out.trans dr); have s10 : w4.cell? ⟨w.heap.size, 10, none⟩ = some (.slice aa2 x.thn.length ca2) := by simp [World.cell?, um]
    have oR := hid um; clear gj dr um t0 t1 t2 t3 t4 t5 t6 t7 t8 t9 t10 t11; go_wp2_with fail; refine (jc3 m' (cR.out m' (by omega)) x.thn (d + 1) b g4 _ w4 _ _ nY.out (ju _) hG (fy.out.low tn.out hG) iy.out (lB.out.wrote tn.out)).mono ?_; rintro e w5 ⟨rfl, g5, kf, cQ⟩; rw [jn] at kf; have uo : w5.heap[w.heap.size]? = some (.cells #[.int .i64 x.kind, .slice ax2 x.texts.length cx2, .int .i64 x.test.kind, .int .i64 x.test.mat, .int .i64 x.test.part, .slice an2 x.test.names.length cn2, .slice ak2 x.test.keys.length ck2, .bool x.test.over, .int .i64 x.test.limit, .slice at2 x.test.tests.length ct2, .slice aa2 x.thn.length ca2, .slice ae2 x.els.length ce2] 201) := (cQ.block _ ei cE (fun e => eT e.symm)).trans oR.out; have hs5 := cQ.stay (k := w.heap.size) ei eT; have fH : w.heap.size < w5.heap.size := aK ei cQ.size; have oU := hid (tn.out.trans (nY.out.below cQ)); have iX := hid (mc.out.wrote oU.out); have s11 : w5.cell? ⟨w.heap.size, 11, none⟩ = some (.slice ae2 x.els.length ce2) := by simp [World.cell?, uo]
    have tu := hid (show (match w5.cell? ⟨w.heap.size, 11, none⟩ with | some v => vZ (n + 1) w5 v | none => 0) < (match wr.cell? ⟨w.heap.size, 11, none⟩ with | some v => vZ (n + 1) wr v | none => 0) by
        rw [HM.out, s11, A4.out]; obtain ⟨mm, mu, _, _, _, h4⟩ := vd iX.out; have e1 : vZ (n + 1) w5 (.slice ae2 x.els.length ce2) = vS (n + 1) x.els := jhA (n + 1) mm x.els _ h4; have e2 := jit (m' + 1) n x _ iX.out (by omega)
        show vZ (n + 1) w5 (.slice ae2 x.els.length ce2) < _
        rw [e1, e2]; omega)
    have fS := hid (show jaU (n + 1) c = (((pre ++ [vP jab]) ++ jay m' x.test) ++ (jT 123 :: (zp m' x.thn ++ [jT 125]))) ++ jfV m' x by
        rw [nk.out, rR.out, Bo.out]
        simp [List.append_assoc])
    have Bz := hid (show WrB w5 b g5 ((l ++ (((pre ++ [vP jab]) ++ jay m' x.test) ++ (jT 123 :: (zp m' x.thn ++ [jT 125])))).take 401) by
        simpa [vP, List.append_assoc] using kf)
    have AL := hid uo; have iY := hid (lA.out.trans cQ); clear kf cQ uo s10 s11; go_wp2; exact ⟨⟨m', x, _, _, _, _, _, _, _, _, _, _, _, _, g5, _, AL.out, iX.out, by omega, lq.out, ti.out, Bz.out, fS, iY.out, hs5, fH⟩, tu.out⟩
  | none =>
    have xJ : jj (jp m (d + 1)) c'.els = 0 := by have := xa.out; rw [he] at this; exact this
    have AE := hid xJ; have rR := hid (show jfV m c' = if c'.els.length = 0 then [] else vP jc7 :: (jT 123 :: (zp m c'.els ++ [jT 125])) by unfold jfV; rw [he]); clear he xJ
    by_cases h0 : 0 < c'.els.length
    . have uc : (0 : Int) < (c'.els.length : Int) := by omega
      go_wp2_with fail; refine (j5 b g' _ 1 jc7 wr rT.out (ju _)).mono ?_; rintro e w3 ⟨rfl, g3, cH, hW3⟩; rw [jn] at cH; have ob : w3.heap[w.heap.size]? = some (.cells #[.int .i64 c'.kind, .slice ax c'.texts.length cx, .int .i64 c'.test.kind, .int .i64 c'.test.mat, .int .i64 c'.test.part, .slice an c'.test.names.length cn, .slice ak c'.test.keys.length ck, .bool c'.test.over, .int .i64 c'.test.limit, .slice at' c'.test.tests.length ct, .slice aa c'.thn.length ca, .slice ae c'.els.length ce] 201) := (hW3.block _ pR cE (fun e => gA e.symm)).trans dP.out; have r11' : w3.cell? ⟨w.heap.size, 11, none⟩ = some (.slice ae c'.els.length ce) := by simp [World.cell?, ob]
      have dS := hid cH; have l7 := hid (rT.out.below hW3); have cP := hid (dZ.out.trans hW3); clear cH hW3 r11 ob; go_wp2_with fail; refine (jc3 m (cR.out m Cr) c'.els (d + 1) b g3 _ w3 _ _ dS.out (ju _) hG (fy.out.low l7.out hG) AE.out (ft.out.wrote l7.out)).mono ?_; rintro e w4 ⟨rfl, g4, gj, dr⟩; rw [jn] at gj; have HE := hid (show Wd b g w l (jaU (n + 1) c) (.returned (.tuple #[])) w4 from ⟨rfl, g4, by rw [nk.out, rR.out, if_neg (by omega)]; simpa [vP, List.append_assoc] using gj, cP.out.trans dr⟩); clear gj dr; go_wp2; go_end0; exact HE.out
    . have uc : ¬ (0 : Int) < (c'.els.length : Int) := by omega
      have HE := hid (show Wd b g w l (jaU (n + 1) c) (.returned (.tuple #[])) wr from ⟨rfl, g', by rw [nk.out, rR.out, if_pos (by omega), bO]; exact rT.out, dZ.out⟩); go_wp2; go_end0; exact HE.out
theorem jeO (n : Nat) : WrBr n := by
 induction n using Nat.strongRecOn with
 | ind n ih =>
   cases n with
   | zero => intro c d b g l w ax an ak at' aa ae cx cn ck ct ca ce _ _ _ _ _ _ h; exact h.elim
   | succ n => exact jdl n fun m hm => ih m (by omega)
theorem RowM.und {P P' : A -> List Value -> Prop} {l : List A} (h : RowM Q k P w v l) (hp : ∀ x cs, P x cs -> P' x cs) : RowM (und w.heap.size) k P' w v l := by
 obtain ⟨a, c, hv, hm, hx⟩ := h; refine ⟨a, c, hv, hm, fun i x hi => ?_⟩; obtain ⟨b, o, cs, ha, hb, _, hl, hc, hP⟩ := hx i x hi; exact ⟨b, o, cs, ha, hb, hb, hl, hc, hp x cs hP⟩
theorem TstM.und {Q : Nat -> Prop} {w : World} : ∀ (n : Nat) (t : Tst) (cs : List Value), TstM Q n w t cs -> TstM (und w.heap.size) n w t cs := by
 intro n
 induction n with
 | zero => intro t cs h; exact h
 | succ n ih =>
   intro t cs h; obtain ⟨vn, vk, vt, h0, h1, h2, h3⟩ := h; exact ⟨vn, vk, vt, h0, RowM.und h1 fun _ _ h => h, RowM.und h2 fun _ _ h => h, RowM.und h3 ih⟩
theorem CmdM.und {Q : Nat -> Prop} {w : World} : ∀ (n : Nat) (t : Cmd) (cs : List Value), CmdM Q n w t cs -> CmdM (und w.heap.size) n w t cs := by
 intro n
 induction n with
 | zero => intro t cs h; exact h
 | succ n ih =>
   intro t cs h; obtain ⟨vx, vn, vk, vt, va, ve, h0, h1, h2, h3, h4⟩ := h; exact ⟨vx, vn, vk, vt, va, ve, h0, RowM.und h1 fun _ _ h => h, TstM.und _ _ _ h2, RowM.und h3 ih, RowM.und h4 ih⟩
theorem CmdsM.und {Q : Nat -> Prop} {n : Nat} {w : World} {v : Value} {l : List Cmd} (h : CmdsM Q n w v l) : CmdsM (und w.heap.size) n w v l := RowM.und h fun _ _ h => CmdM.und _ _ _ h
theorem CmdsM.any {l : List Cmd} (h : CmdsM Q n w v l) : CmdsM anyB n w v l := RowM.imp h (fun _ _ => trivial) (Keeps.refl _ _) fun _ _ h => CmdM.imp (fun _ _ => trivial) (Keeps.refl _ _) _ _ _ h
theorem CmdsM.imp' {l : List Cmd} (h : CmdsM Q n w v l) (hb : Below w.heap.size w w') : CmdsM Q n w' v l := h.next hb
theorem jf1 (n : Nat) (l : List Cmd) (a : Option Addr) (k : Nat) (w : World) (hw : WordsAt w) (hF : jS n 0 l = 0) (h : CmdsM anyB n w (.slice a l.length k) l) :
 Calls Tryz.prog 120 #[.slice a l.length k] w fun e w' => ∃ a' c', e = .returned (.slice a' ((zp n l).take 401).length c') /\ ToksAt w' a' ((zp n l).take 401) /\ Below w.heap.size w w' := by
 have hG := hw.pos; obtain ⟨W0, hW0⟩ : ∃ W0, W0 = w.alloc (.cells #[.slice none 0 0] 236) := ⟨_, rfl⟩; have cw : Below w.heap.size w W0 := by rw [hW0]; exact nb0 _ _
 have rS := hid (show WrB W0 w.heap.size none [] by rw [hW0]; exact ⟨none, 0, az w _, rfl, aR _ _ _ _⟩); have b9 := hid hW0; have cu := hid cw; have HT := hid (CmdsM.imp' h.und cw); have HW := hid (hw.next cw); have HF := hid hF; clear hW0 cw h hw hF; go_enter Tryz.func120, Tryz.ntmps120; go_wp2_with fail; rw [<- b9.out]; refine (jca n (jeO n) l 0 w.heap.size none [] W0 a k rS.out (by simp) hG HW.out HF.out HT.out).mono ?_; rintro e w1 ⟨rfl, g1, eF, hW1⟩; rw [bM] at eF; clear HF HT; obtain ⟨T, hT⟩ : ∃ T, T = (zp n l).take 401 := ⟨_, rfl⟩; rw [<- hT] at eF; have Bu := hid hT; clear hT; have b8 := cu.out.trans (rS.out.below hW1); obtain ⟨a', c', h1, h2, h3⟩ := eF; have k0 : w1.cell? ⟨w.heap.size, 0, none⟩ = some (.slice a' T.length c') := by simp [World.cell?, h1]
 have HE := hid (show ToksAt w1 a' T from OwnT.at h3); have bX := hid b8; clear h1 h2 h3 hW1 b8; go_wp2; go_ret; rw [<- Bu.out]; exact ⟨a', c', rfl, HE.out, bX.out⟩
theorem jdL (n : Nat) (l : List Cmd) (a : Option Addr) (k : Nat) (w : World) (hw : WordsAt w) (h : CmdsM anyB n w (.slice a l.length k) l) :
 Calls Tryz.prog 74 #[.slice a l.length k] w fun e w' => e = .returned (.int .i64 (qh n l)) /\ Below w.heap.size w w' := by
 have HT := hid h; have HW := hid hw; clear h hw; go_enter Tryz.func74, Tryz.ntmps74; go_wp2_with fail; refine (qm n (jcd n) l 0 w a k (by omega) HW.out HT.out).mono ?_; rintro e w1 ⟨rfl, hb1⟩; have bX := hid hb1; obtain ⟨x, hx⟩ : ∃ x, x = jS n 0 l := ⟨_, rfl⟩; rw [<- hx]; have HX := hid hx; clear hx hb1
 by_cases hx : x = 0
 . have HF := hid (show jS n 0 l = 0 by rw [<- HX.out, hx]); subst hx; go_wp2_with fail; refine (jf1 n l a k w1 (HW.out.next bX.out) HF.out (HT.out.next bX.out)).mono ?_; rintro e w2 ⟨a', c', rfl, _, hb2⟩; have bY := hid (bX.out.trans (hb2.mono bX.out.size)); clear hb2
   by_cases hlen : 400 < (zp n l).length
   . have hl2 : ((zp n l).take 401).length = 401 := by rw [bp]; omega
     rw [hl2]; have HR := hid (show qh n l = 5 by unfold qh; rw [if_neg (by rw [HF.out]; simp), if_pos hlen]); go_wp2; go_ret; exact ⟨jd HR.out.symm, bY.out⟩
   . have hl2 : ((((zp n l).take 401).length : Nat) : Int) <= 400 := by rw [bp]; omega
     have lJ : ¬ (400 : Int) < ((((zp n l).take 401).length : Nat) : Int) := by omega
     have HR := hid (show qh n l = 0 by unfold qh; rw [if_neg (by rw [HF.out]; simp), if_neg hlen]); generalize ((zp n l).take 401).length = y at *; go_wp2; go_ret; exact ⟨jd HR.out.symm, bY.out⟩
 . have HR := hid (show qh n l = x by unfold qh; rw [<- HX.out, if_pos hx]); go_wp2; go_ret; exact ⟨jd HR.out.symm, bX.out⟩
end Go.Proofs.YtjdkbdkimbgbfaaGreatDoor
