/-
  The reader of a list in memory: one block that holds what is still to be read; all else is left alone.
-/
import Derived.Test.YtmgdnhjemhhleaaGreatDoorOQScrRd135
set_option maxHeartbeats 8000000
set_option maxRecDepth 100000
namespace Go.Proofs.YtmgdnhjemhhleaaGreatDoor
open Go.RowKit
def RB (w : World) (b : Nat) (s : List UInt8) : Prop := w.heap[b]? = some (.cells #[.string (S s)] 263)
theorem RB.cell {w : World} {b : Nat} {s : List UInt8} (h : RB w b s) : w.cell? ⟨b, 0, none⟩ = some (.string (S s)) := by
 unfold RB at h; simp [World.cell?, h]
theorem RB.free {w : World} {b : Nat} {s : List UInt8} (h : RB w b s) : w.frozen? ⟨b, 0, none⟩ = false := by
 unfold RB at h; simp [World.frozen?, h]
theorem RB.lt {w : World} {b : Nat} {s : List UInt8} (h : RB w b s) : b < w.heap.size := World.block_lt_of_cell? w _ h.cell
theorem RB.below {w w' : World} {b : Nat} {s : List UInt8} (h : RB w b s) (hb : Below w.heap.size w w') : RB w' b s := (hb.block b h.lt).trans h
theorem RB.set {w : World} {b : Nat} {s : List UInt8} (h : RB w b s) (t : List UInt8) : RB (w.setCell ⟨b, 0, none⟩ (.string (S t))) b t := ji _ h
def jax : List PanicEntry := [{ v := .iface 40 (.int .i64 3), recovered := false }]
def Rd (b : Nat) (w : World) (o : Option (Value × List UInt8)) (e : Ending) (w' : World) : Prop :=
 match o with
 | some (v, r) => e = .returned v ∧ RB w' b r ∧ But b w w'
 | none => e = .panicked jax ∧ But b w w'
def jnD (s : List UInt8) : Option (Value × List UInt8) := match s with | [] => none | c :: t => some (.int .u8 c.toNat, t)
theorem qx (b : Nat) (s : List UInt8) (w : World) (hR : RB w b s) :
 Calls Tryz.prog 225 #[.pointer (some ⟨b, 0, none⟩)] w (Rd b w (jnD s)) := by
 have hc := hR.cell; have hf := hR.free; have HR : Hid (RB w b s) := hR; clear hR; cases s with
 | nil =>
   have he := jbH; go_enter Tryz.func225, Tryz.ntmps225; go_wp2; exact ⟨rfl, rfl, But.refl _ _⟩
 | cons c t =>
   have he := jbI c t; have hz := jeV c t; go_enter Tryz.func225, Tryz.ntmps225; go_wp2; go_ret; refine ⟨rfl, ?_, But.set _ _⟩; rw [zO]; exact HR.out.set _
theorem jaQ (b : Nat) (c : UInt8) (s : List UInt8) (w : World) (hR : RB w b s) :
 Calls Tryz.prog 187 #[.pointer (some ⟨b, 0, none⟩), .int .u8 c.toNat] w (Rd b w ((zr c s).map fun r => (.tuple #[], r))) := by
 have HR : Hid (RB w b s) := hR; clear hR; cases s with
 | nil =>
   go_enter Tryz.func187, Tryz.ntmps187; go_wp2_with fail; refine (qx b [] _ HR.out).mono ?_; rintro e u ⟨rfl, hB⟩; go_wp2; exact ⟨rfl, rfl, hB⟩
 | cons x t =>
   by_cases hx : x = c
   · have HT : Hid (zr c (x :: t) = some t) := by show (if x = c then some t else none) = some t; rw [if_pos hx]
     have hq : (x.toNat : Int) = (c.toNat : Int) := by rw [hx]
     clear hx; go_enter Tryz.func187, Tryz.ntmps187; go_wp2_with fail; refine (qx b (x :: t) _ HR.out).mono ?_; rintro e u ⟨rfl, hR2, hB⟩; go_wp2; go_end0; rw [HT.out]; exact ⟨rfl, hR2, hB⟩
   · have HT : Hid (zr c (x :: t) = none) := by show (if x = c then some t else none) = none; rw [if_neg hx]
     have hq : ¬ (x.toNat : Int) = (c.toNat : Int) := fun e => hx (UInt8.toNat_inj.1 (by omega))
     clear hx; go_enter Tryz.func187, Tryz.ntmps187; go_wp2_with fail; refine (qx b (x :: t) _ HR.out).mono ?_; rintro e u ⟨rfl, hR2, hB⟩; go_wp2; rw [HT.out]; exact ⟨rfl, rfl, hB⟩
theorem qG (b : Nat) (s : List UInt8) (w : World) (hR : RB w b s) :
 Calls Tryz.prog 221 #[.pointer (some ⟨b, 0, none⟩)] w (Rd b w (some (.tuple #[], ju s))) := by
 have hc := hR.cell; have HR : Hid (RB w b s) := hR; have HT : Hid ((⟨(Lib.trimLeftS (S s).data.toList [32, 9]).toArray⟩ : ByteArray) = S (ju s)) := by
  unfold Hid Lib.trimLeftS ju; rw [jj]
  show S _ = S _
  congr 1
  congr 1
  funext c
  simp [jbb, Bool.beq_eq_decide_eq]
 clear hR; go_enter Tryz.func221, Tryz.ntmps221; go_wp2_with fail; refine (trimLeft_any (S s) _).mono ?_; rintro e u ⟨rfl, hb⟩; rw [HT.out]; have hc2 := (HR.out.below hb).cell; have hf2 := (HR.out.below hb).free; go_wp2; go_end0; exact ⟨rfl, (HR.out.below hb).set _, (But.of hb).trans (But.set _ _)⟩
theorem jbF {c : UInt8} {t : List UInt8} (h : runB c = true) : wrun (c :: t) = c :: wrun t := by unfold wrun; rw [List.takeWhile_cons, if_pos h]
theorem jjM {c : UInt8} {t : List UInt8} (h : runB c = false) : wrun (c :: t) = [] := by unfold wrun; rw [List.takeWhile_cons, h]; rfl
theorem jlJ {c : UInt8} (h : c ≠ 46) : runB c = qh c := by unfold runB; simp [h]
theorem jaM (s : ByteArray) (w : World) (hs : s.size ≤ maxLen) :
 Calls Tryz.prog 252 #[.string s] w fun e w' => e = .returned (.int .i64 ((wrun s.data.toList).length : Nat)) ∧ w' = w := by
 unfold maxLen at hs; go_enter Tryz.func252, Tryz.ntmps252; go_wp2
 go_loopw [3] (fun i wr => ∃ k : Nat, k ≤ s.size ∧ i = .int .i64 k ∧ Hid ((wrun s.data.toList).length = k + (wrun (s.data.toList.drop k)).length) ∧ wr = w) (fun i _ => s.size - (intOf i).toNat)
 case atStart => exact ⟨0, Nat.zero_le _, rfl, by unfold Hid; simp, rfl⟩
 case round =>
  obtain ⟨k, hk, rfl, HT, rfl⟩ := hrel
  by_cases hlt : k < s.size
  · have hdrop : s.data.toList.drop k = s[k] :: s.data.toList.drop (k + 1) := by
        rw [List.drop_eq_getElem_cons (by rw [size_list]; exact hlt)]; rfl
    by_cases hd : s[k] = 46
    · have hyi : (s[k].toNat : Int) = 46 := by rw [hd]; rfl
      have HN : Hid ((wrun s.data.toList).length = (k + 1) + (wrun (s.data.toList.drop (k + 1))).length) := by
       unfold Hid; rw [HT.out, hdrop, jbF (by rw [hd]; decide)]; simp; omega
      clear hdrop hd; go_wp2
      go_roundw
      case rel => first | exact ⟨k + 1, by omega, by go_num, HN, by first | rfl | trivial⟩ | ((repeat apply Exists.intro); exact ⟨⟨k + 1, by omega, by go_num, HN, by first | rfl | trivial⟩, rfl⟩) | (refine ⟨trivial, ?_⟩; (repeat apply Exists.intro); exact ⟨⟨k + 1, by omega, by go_num, HN, by first | rfl | trivial⟩, rfl⟩)
      case measure => simp [intOf]; omega
    · have hyi : ¬ (s[k].toNat : Int) = 46 := fun h => hd (UInt8.toNat_inj.1 (by show s[k].toNat = 46; omega))
      cases ha : qh s[k] with
      | true =>
        have HN : Hid ((wrun s.data.toList).length = (k + 1) + (wrun (s.data.toList.drop (k + 1))).length) := by
            unfold Hid; rw [HT.out, hdrop, jbF (by rw [jlJ hd]; exact ha)]; simp; omega
        have HA : Hid _ := ha; clear ha hdrop hd; go_wp2_with fail; refine (vX s[k] _).mono ?_; rintro e u ⟨rfl, hu⟩; have hu' := hu.symm; subst hu'; rw [HA.out]; go_wp2
        go_roundw
        case rel => first | exact ⟨k + 1, by omega, by go_num, HN, by first | rfl | trivial⟩ | ((repeat apply Exists.intro); exact ⟨⟨k + 1, by omega, by go_num, HN, by first | rfl | trivial⟩, rfl⟩) | (refine ⟨trivial, ?_⟩; (repeat apply Exists.intro); exact ⟨⟨k + 1, by omega, by go_num, HN, by first | rfl | trivial⟩, rfl⟩)
        case measure => simp [intOf]; omega
      | false =>
        have HN : Hid ((wrun s.data.toList).length = k) := by
            unfold Hid; rw [HT.out, hdrop, jjM (by rw [jlJ hd]; exact ha)]; rfl
        have HA : Hid _ := ha; clear ha hdrop hd; go_wp2_with fail; refine (vX s[k] _).mono ?_; rintro e u ⟨rfl, hu⟩; have hu' := hu.symm; subst hu'; rw [HA.out]; go_wp2; go_ret; exact ⟨jc (by rw [HN.out]), rfl⟩
  · have HN : Hid ((wrun s.data.toList).length = k) := by
        unfold Hid; rw [HT.out, List.drop_of_length_le (by rw [size_list]; omega)]; rfl
    go_wp2; go_ret; exact ⟨jc (by rw [HN.out]), rfl⟩
theorem jjA (s : List UInt8) : s.take (wrun s).length = wrun s := by
 conv => lhs; arg 2; rw [← vP s]
 rw [List.take_left]
theorem jd8 (s : List UInt8) : s.drop (wrun s).length = j9 s := by
 conv => lhs; arg 2; rw [← vP s]
 rw [List.drop_left]
theorem jbE (s : List UInt8) : (wrun s).length ≤ s.length := by
 have := congrArg List.length (vP s)
 simp at this; omega
theorem jfB (b : Nat) (s : List UInt8) (w : World) (hR : RB w b s) (hs : s.length ≤ 1048576) :
 Calls Tryz.prog 253 #[.pointer (some ⟨b, 0, none⟩)] w (Rd b w (some (.string (S (wrun s)), j9 s))) := by
 have hc := hR.cell; have hf := hR.free; have HR : Hid (RB w b s) := hR; clear hR; obtain ⟨n, hn⟩ : ∃ n, n = (wrun s).length := ⟨_, rfl⟩; have hnl : n ≤ (S s).size := by rw [hn, jd]; exact jbE s
 have i1 : (0 : Int) ≤ (n : Int) := by omega
 have i2 : (n : Int) ≤ ((S s).size : Int) := by omega
 have HZ : Hid ((S s).size ≤ maxLen) := by unfold Hid maxLen; rw [jd]; omega
 have HN : Hid ((wrun (S s).data.toList).length = n) := by unfold Hid; rw [jj, hn]
 have HT : Hid ((S s).extract 0 n = S (wrun s)) := by unfold Hid; rw [jcH, hn, jjA]
 have HD : Hid ((S s).extract n (S s).size = S (j9 s)) := by unfold Hid; rw [zO, hn, jd8]
 clear hn hs; go_enter Tryz.func253, Tryz.ntmps253; go_wp2_with fail; refine (jaM (S s) _ HZ.out).mono ?_; rintro e u ⟨rfl, hu⟩; have hu' := hu.symm; subst hu'; rw [HN.out]; go_wp2; go_ret; refine ⟨?_, ?_, But.set _ _⟩
 · rw [← HT.out]; rfl
 · rw [HD.out]; exact HR.out.set _
theorem jc0 (c : UInt8) (s : List UInt8) : Lib.hasPrefix s [c] = (zr c s).isSome := by
 unfold Lib.hasPrefix; cases s with
 | nil => rfl
 | cons x t =>
   show ([c].isPrefixOf (x :: t)) = (if x = c then some t else none).isSome
   by_cases h : x = c
   · subst h; simp [List.isPrefixOf]
   · rw [if_neg h]; simp [List.isPrefixOf]; exact fun e => h e.symm
theorem jbM (b : Nat) (s : List UInt8) (w : World) (hR : RB w b s) (hs : s.length ≤ 1048576) :
 Calls Tryz.prog 222 #[.pointer (some ⟨b, 0, none⟩)] w (Rd b w (some (.bool (zr 64 (j9 s)).isSome, s))) := by
 have hc := hR.cell; have HR : Hid (RB w b s) := hR; clear hR; obtain ⟨n, hn⟩ : ∃ n, n = (wrun s).length := ⟨_, rfl⟩; have hnl : n ≤ (S s).size := by rw [hn, jd]; exact jbE s
 have i1 : (0 : Int) ≤ (n : Int) := by omega
 have i2 : (n : Int) ≤ ((S s).size : Int) := by omega
 have HZ : Hid ((S s).size ≤ maxLen) := by unfold Hid maxLen; rw [jd]; omega
 have HN : Hid ((wrun (S s).data.toList).length = n) := by unfold Hid; rw [jj, hn]
 have HP : Hid (Lib.hasPrefix ((S s).extract n (S s).size).data.toList (⟨#[64]⟩ : ByteArray).data.toList = (zr 64 (j9 s)).isSome) := by
  unfold Hid; rw [zO, hn, jd8, jj]; exact jc0 64 _
 clear hn hs hnl; go_enter Tryz.func222, Tryz.ntmps222; go_wp2
 go_region_held3 (fun w' => w'.cell? ⟨b, 0, none⟩ = some (.string (S s))) (go_keep)
  (first
    | (go_at_call 252
       refine (jaM (S s) _ HZ.out).mono ?_; rintro e u ⟨rfl, hu⟩; have hu' := hu.symm; subst hu'; rw [HN.out])
    | (go_at_call 117
       refine (hasPrefix_any _ ⟨#[64]⟩ _).mono ?_; rintro e u2 ⟨rfl, hu2⟩; have hu2' := hu2.symm; subst hu2'; rw [HP.out]))
 go_wp2; go_ret; have hd : Below w.heap.size w w.drew := (Below.refl _ _).drew; exact ⟨rfl, HR.out.below hd, But.of hd⟩
theorem But.far {b : Nat} {w w1 : World} (h : But b w w1) {p : Addr} (hp : w.heap.size ≤ p.block) (v : Value) : But b w (w1.setCell p v) :=
 ⟨h.os, h.tape, h.output, by simpa [World.setCell] using h.size, fun k hk hn => (Below.heap_setCell _ _ _ _ (by omega)).trans (h.block k hk hn)⟩
theorem But.more {b : Nat} {w w1 : World} (h : But b w w1) (o : Obj) : But b w (w1.alloc o) :=
 h.trans (But.of ((Below.refl _ _).alloc (Nat.le_refl _) o))
theorem RB.far {w : World} {b : Nat} {s : List UInt8} (h : RB w b s) {p : Addr} (hn : b ≠ p.block) (v : Value) : RB (w.setCell p v) b s :=
 (Below.heap_setCell _ _ _ _ hn).trans h
theorem RB.more {w : World} {b : Nat} {s : List UInt8} (h : RB w b s) (o : Obj) : RB (w.alloc o) b s := h.below ((Below.refl _ _).alloc (Nat.le_refl _) o)
def Two (w : World) (b : Nat) (x y : List UInt8) : Prop := w.heap[b]? = some (.cells #[.string (S x), .string (S y)] 76)
theorem Two.c0 {w : World} {b : Nat} {x y : List UInt8} (h : Two w b x y) : w.cell? ⟨b, 0, none⟩ = some (.string (S x)) := by unfold Two at h; simp [World.cell?, h]
theorem Two.c1 {w : World} {b : Nat} {x y : List UInt8} (h : Two w b x y) : w.cell? ⟨b, 1, none⟩ = some (.string (S y)) := by unfold Two at h; simp [World.cell?, h]
theorem Two.free {w : World} {b : Nat} {x y : List UInt8} (h : Two w b x y) (o : Nat) : w.frozen? ⟨b, o, none⟩ = false := by unfold Two at h; simp [World.frozen?, h]
theorem Two.lt {w : World} {b : Nat} {x y : List UInt8} (h : Two w b x y) : b < w.heap.size := World.block_lt_of_cell? w _ h.c0
theorem Two.set0 {w : World} {b : Nat} {x y : List UInt8} (h : Two w b x y) (z : List UInt8) : Two (w.setCell ⟨b, 0, none⟩ (.string (S z))) b z y := ji _ h
theorem Two.set1 {w : World} {b : Nat} {x y : List UInt8} (h : Two w b x y) (z : List UInt8) : Two (w.setCell ⟨b, 1, none⟩ (.string (S z))) b x z := ji _ h
theorem Two.far {w : World} {b : Nat} {x y : List UInt8} (h : Two w b x y) {p : Addr} (hn : b ≠ p.block) (v : Value) : Two (w.setCell p v) b x y := (Below.heap_setCell _ _ _ _ hn).trans h
theorem Two.but {w w' : World} {r b : Nat} {x y : List UInt8} (h : Two w b x y) (hb : But r w w') (hn : b ≠ r) : Two w' b x y := (hb.block b h.lt hn).trans h
theorem Two.below {w w' : World} {b : Nat} {x y : List UInt8} (h : Two w b x y) (hb : Below w.heap.size w w') : Two w' b x y := (hb.block b h.lt).trans h
theorem jdQ (w : World) : Two (w.alloc (.cells #[.string ⟨#[]⟩, .string ⟨#[]⟩] 76)) w.heap.size [] [] := by
 unfold Two
 show (w.heap.push _)[w.heap.size]? = _
 rw [Array.getElem?_push_size]; rfl
def adrV (a : Adr) : Value := .agg #[.string (S a.1), .string (S a.2)]
theorem jes (b : Nat) (s : List UInt8) (w : World) (hR : RB w b s) (hs : s.length ≤ 1048576) :
 Calls Tryz.prog 223 #[.pointer (some ⟨b, 0, none⟩)] w (Rd b w ((zU s).map fun x => (adrV x.1, x.2))) := by
 have hbw := hR.lt; have hne0 : b ≠ w.heap.size := by omega
 have hne1 : b ≠ w.heap.size + 1 := by omega
 obtain ⟨W0, hW0⟩ : ∃ W0, W0 = (w.alloc (.cells #[.string ⟨#[]⟩, .string ⟨#[]⟩] 76)).alloc (.cells #[.string ⟨#[]⟩, .string ⟨#[]⟩] 76) := ⟨_, rfl⟩; have hT0 : Two W0 w.heap.size [] [] := by rw [hW0]; exact (jdQ w).below (nb0 _ _)
 have hT1 : Two W0 (w.heap.size + 1) [] [] := by rw [hW0]; have := jdQ (w.alloc (.cells #[.string ⟨#[]⟩, .string ⟨#[]⟩] 76)); simpa using this
 have hR0 : RB W0 b s := by rw [hW0]; exact (hR.more _).more _
 have hB0 : But b w W0 := by rw [hW0]; exact ((But.refl b w).more _).more _
 have HW : Hid _ := hW0; have HB0 : Hid (But b w W0) := hB0; have HR0 : Hid (RB W0 b s) := hR0; have HT0 : Hid (Two W0 w.heap.size [] []) := hT0; have HT1 : Hid (Two W0 (w.heap.size + 1) [] []) := hT1; have hl1 := jbE s; have hlr := qQ s; clear hW0 hT0 hT1 hR0 hB0 hR; go_enter Tryz.func223, Tryz.ntmps223; go_wp2_with fail; rw [← HW.out]; refine (jfB b s _ HR0.out hs).mono ?_; rintro e w1 ⟨rfl, hR1, hB1⟩; have hTa : Two w1 (w.heap.size + 1) [] [] := HT1.out.but hB1 hne1.symm; have ca := hTa.c0; have fa := hTa.free 0; have hTb : Two (w1.setCell ⟨w.heap.size + 1, 0, none⟩ (.string (S (wrun s)))) (w.heap.size + 1) (wrun s) [] := hTa.set0 _; have hRb : RB (w1.setCell ⟨w.heap.size + 1, 0, none⟩ (.string (S (wrun s)))) b (j9 s) := hR1.far hne1 _; have hBb : But b w (w1.setCell ⟨w.heap.size + 1, 0, none⟩ (.string (S (wrun s)))) := (HB0.out.trans hB1).far (by simp) _; have hTr : Two (w1.setCell ⟨w.heap.size + 1, 0, none⟩ (.string (S (wrun s)))) w.heap.size [] [] := (HT0.out.but hB1 hne0.symm).far (by simp) _; have HTb : Hid _ := hTb; have HRb : Hid _ := hRb; have HBb : Hid _ := hBb; have HTr : Hid _ := hTr; clear hTb hRb hBb hTr hTa hR1 hB1; go_wp2_with fail; refine (jaQ b 64 (j9 s) _ HRb.out).mono ?_; cases ht : zr 64 (j9 s) with
 | none =>
   have HP : Hid (zU s = none) := by unfold Hid zU; rw [ht]
   rintro e w2 ⟨rfl, hB2⟩; clear ht; go_wp2; rw [HP.out]; exact ⟨rfl, rfl, HBb.out.trans hB2⟩
 | some r =>
   have hrl : r.length ≤ 1048576 := by have := congrArg List.length (zz ht); simp at this; omega
   have hPeq : zU s = if jS (wrun s) (wrun r) = 0 then some ((wrun s, wrun r), j9 r) else none := by unfold zU; rw [ht]
   have HPE : Hid _ := hPeq; clear hPeq ht; rintro e w2 ⟨rfl, hR2, hB2⟩; have hT2 := Two.but HTb.out hB2 hne1.symm; have hTr2 := Two.but HTr.out hB2 hne0.symm; have hBw2 := HBb.out.trans hB2; have HT2 : Hid _ := hT2; have HTr2 : Hid _ := hTr2; have HBw2 : Hid _ := hBw2; clear hT2 hTr2 hBw2 hB2 ca fa; go_wp2_with fail; refine (jfB b r _ hR2 hrl).mono ?_; rintro e w3 ⟨rfl, hR3, hB3⟩; have hT3 : Two w3 (w.heap.size + 1) (wrun s) [] := Two.but HT2.out hB3 hne1.symm; have c3 := hT3.c1; have c3' := hT3.c0; have f3 := hT3.free 1; have hT4 := hT3.set1 (wrun r); have hTr4 : Two (w3.setCell ⟨w.heap.size + 1, 1, none⟩ (.string (S (wrun r)))) w.heap.size [] [] := (Two.but HTr2.out hB3 hne0.symm).far (by simp) _; have hR4 : RB (w3.setCell ⟨w.heap.size + 1, 1, none⟩ (.string (S (wrun r)))) b (j9 r) := hR3.far hne1 _; have hB4 : But b w (w3.setCell ⟨w.heap.size + 1, 1, none⟩ (.string (S (wrun r)))) := (HBw2.out.trans hB3).far (by simp) _; have hlx : (S (wrun s)).size ≤ 140737488355328 := by rw [jd]; omega
   have hly : (S (wrun r)).size ≤ 140737488355328 := by rw [jd]; have := jbE r; omega
   have HZ1 : Hid _ := hlx; have HZ2 : Hid _ := hly; have HT4 : Hid _ := hT4; have HTr4 : Hid _ := hTr4; have HR4 : Hid _ := hR4; have HB4 : Hid _ := hB4; clear hT4 hTr4 hR4 hB4 hT3 hR3 hB3 hR2 hlx hly; go_wp2_with fail; refine (zR (S (wrun s)) (S (wrun r)) _ HZ1.out HZ2.out).mono ?_; rintro e w5 ⟨rfl, hb5⟩; rw [jj, jj]; have hT5 := Two.below HT4.out hb5; have hTr5 := Two.below HTr4.out hb5; have hR5 := RB.below HR4.out hb5; have hB5 := But.trans HB4.out (But.of hb5)
   by_cases h0 : jS (wrun s) (wrun r) = 0
   · have HC : Hid _ := h0; have HP : Hid (zU s = some ((wrun s, wrun r), j9 r)) := by unfold Hid; rw [HPE.out, if_pos h0]
     clear h0; rw [HC.out]; have d0 := hT5.c0; have d1 := hT5.c1; have e0 := hTr5.c0; have e1 := hTr5.c1; have g0 := hTr5.free 0; have g1 := hTr5.free 1; have hT6 := (hTr5.set0 (wrun s)).set1 (wrun r); have hR6 := (hR5.far (p := ⟨w.heap.size, 0, none⟩) hne0 (.string (S (wrun s)))).far (p := ⟨w.heap.size, 1, none⟩) hne0 (.string (S (wrun r))); have hB6 := (hB5.far (p := ⟨w.heap.size, 0, none⟩) (Nat.le_refl _) (.string (S (wrun s)))).far (p := ⟨w.heap.size, 1, none⟩) (Nat.le_refl _) (.string (S (wrun r))); have k0 := hT6.c0; have k1 := hT6.c1; have HR6 : Hid _ := hR6; have HB6 : Hid _ := hB6; have HK : Hid _ := And.intro k0 k1; clear hT6 hR6 hB6 hT5 hTr5 hR5 hB5 k0 k1 c3 c3' f3; go_wp2; refine bodyPost_ret (v := .agg #[.string (S (wrun s)), .string (S (wrun r))]) (by simp [results, Tryz.results223, go_sem, HK.out.1, HK.out.2]) rfl ?_; rw [HP.out]; exact ⟨rfl, HR6.out, HB6.out⟩
   · have HP : Hid (zU s = none) := by unfold Hid; rw [HPE.out, if_neg h0]
     obtain ⟨x, hx⟩ : ∃ x, x = jS (wrun s) (wrun r) := ⟨_, rfl⟩; rw [← hx] at h0 ⊢; have HX : Hid _ := hx; have HB5 : Hid _ := hB5; clear hx hT5 hTr5 hR5 hB5; go_wp2; rw [HP.out]; exact ⟨rfl, rfl, HB5.out⟩
def qo (b : Nat) (w : World) : Nat := (jnw ((w.cell? ⟨b, 0, none⟩).getD undef)).size
theorem zp {b : Nat} {w : World} {s : List UInt8} (h : RB w b s) : qo b w = s.length := by
 unfold qo; rw [h.cell]; exact jd s
theorem jbP {c d : UInt8} (h : c ≠ d) : ¬ (c.toNat : Int) = (d.toNat : Int) := fun e => h (UInt8.toNat_inj.1 (by omega))
theorem jhr (b : Nat) (t : List UInt8) (w : World) (hR : RB w b (34 :: t)) :
 Calls Tryz.prog 254 #[.pointer (some ⟨b, 0, none⟩)] w (Rd b w ((jY false t).map fun r => (.tuple #[], r))) := by
 have HR : Hid (RB w b (34 :: t)) := hR; clear hR; go_enter Tryz.func254, Tryz.ntmps254; go_wp2_with fail; refine (jaQ b 34 (34 :: t) _ HR.out).mono ?_; rintro e w1 ⟨rfl, hR1, hB1⟩; go_wp2
 go_loopw [6] (fun _ wr => ∃ t', RB wr b t' ∧ Hid (jY false t = jY false t') ∧ But b w wr) (fun _ wr => qo b wr)
 case atStart => exact ⟨t, hR1, rfl, hB1⟩
 case round =>
  obtain ⟨t', hRr, HQ, hBr⟩ := hrel; have HRr : Hid (RB wr b t') := hRr; clear hRr hR1 hB1; cases t' with
  | nil =>
    go_wp2_with fail; refine (qx b [] _ HRr.out).mono ?_; rintro e u ⟨rfl, hB⟩; go_wp2; rw [HQ.out]; exact ⟨rfl, rfl, hBr.trans hB⟩
  | cons c u =>
    by_cases h34 : c = 34
    · have HN : Hid (jY false (c :: u) = some u) := by unfold Hid jY; rw [if_pos h34]
      subst h34; go_wp2_with fail; refine (qx b (34 :: u) _ HRr.out).mono ?_; rintro e v ⟨rfl, hR2, hB⟩; go_wp2
      first | go_end0 | refine bodyPost_ret (results_none rfl _ _ _) rfl ?_
      rw [HQ.out, HN.out]; exact ⟨rfl, hR2, hBr.trans hB⟩
    · have hq1 : ¬ (c.toNat : Int) = 34 := jbP (d := 34) h34
      by_cases h92 : c = 92
      · have hc92 : (c.toNat : Int) = 92 := by rw [h92]; rfl
        have HN : Hid (jY false (c :: u) = jY true u) := by unfold Hid; rw [jY, if_neg h34, if_pos h92]
        clear h34 h92; go_wp2_with fail; refine (qx b (c :: u) _ HRr.out).mono ?_; rintro e v ⟨rfl, hR2, hB⟩; have HR2 : Hid (RB v b u) := hR2; clear hR2; go_wp2_with fail; refine (qx b u _ HR2.out).mono ?_; cases u with
        | nil =>
          rintro e v2 ⟨rfl, hB2⟩; go_wp2; rw [HQ.out, HN.out]; exact ⟨rfl, rfl, (hBr.trans hB).trans hB2⟩
        | cons x y =>
          rintro e v2 ⟨rfl, hR3, hB2⟩
          by_cases hx : x = 34 ∨ x = 92
          · have HM : Hid (jY true (x :: y) = jY false y) := by unfold Hid; rw [jY, if_pos hx]
            have HD : Hid (qo b v2 < qo b wr) := by
             unfold Hid; rw [zp hR3, zp HRr.out]; simp; omega
            have HR3 : Hid (RB v2 b y) := hR3; have HB3 : Hid (But b w v2) := (hBr.trans hB).trans hB2; clear hR3 hB hB2 hBr
            by_cases hx1 : x = 34
            · have hxi : (x.toNat : Int) = 34 := by rw [hx1]; rfl
              clear hx hx1; go_wp2
              go_roundw
              case rel => first | exact ⟨y, HR3.out, by unfold Hid; rw [HQ.out, HN.out, HM.out], HB3.out⟩ | ((repeat apply Exists.intro); exact ⟨⟨y, HR3.out, by unfold Hid; rw [HQ.out, HN.out, HM.out], HB3.out⟩, rfl⟩) | (refine ⟨trivial, ?_⟩; (repeat apply Exists.intro); exact ⟨⟨y, HR3.out, by unfold Hid; rw [HQ.out, HN.out, HM.out], HB3.out⟩, rfl⟩)
              case measure => exact HD.out
            · have hxi : ¬ (x.toNat : Int) = 34 := jbP (d := 34) hx1; have hx2 : (x.toNat : Int) = 92 := by rcases hx with h | h; exact absurd h hx1; rw [h]; rfl
              clear hx hx1; go_wp2
              go_roundw
              case rel => first | exact ⟨y, HR3.out, by unfold Hid; rw [HQ.out, HN.out, HM.out], HB3.out⟩ | ((repeat apply Exists.intro); exact ⟨⟨y, HR3.out, by unfold Hid; rw [HQ.out, HN.out, HM.out], HB3.out⟩, rfl⟩) | (refine ⟨trivial, ?_⟩; (repeat apply Exists.intro); exact ⟨⟨y, HR3.out, by unfold Hid; rw [HQ.out, HN.out, HM.out], HB3.out⟩, rfl⟩)
              case measure => exact HD.out
          · have HM : Hid (jY true (x :: y) = none) := by unfold Hid; rw [jY, if_neg hx]
            have hx1 : ¬ (x.toNat : Int) = 34 := jbP (d := 34) fun e => hx (Or.inl e)
            have hx2 : ¬ (x.toNat : Int) = 92 := jbP (d := 92) fun e => hx (Or.inr e)
            clear hx hR3; go_wp2
            case' roundEnd =>
             rename_i hor
             exfalso
             rcases hor with h | h
             · exact hx1 (by simpa using h)
             · exact hx2 (by simpa using h)
            rw [HQ.out, HN.out, HM.out]; exact ⟨rfl, rfl, (hBr.trans hB).trans hB2⟩
      · have hq2 : ¬ (c.toNat : Int) = 92 := jbP (d := 92) h92; have HN : Hid (jY false (c :: u) = jY false u) := by unfold Hid; rw [jY, if_neg h34, if_neg h92]
        clear h34 h92; go_wp2_with fail; refine (qx b (c :: u) _ HRr.out).mono ?_; rintro e v ⟨rfl, hR2, hB⟩; have HD : Hid (qo b v < qo b wr) := by
            unfold Hid; rw [zp hR2, zp HRr.out]; simp
        have HR2 : Hid (RB v b u) := hR2; have HB2 : Hid (But b w v) := hBr.trans hB; clear hR2 hB hBr; go_wp2
        go_roundw
        case rel => first | exact ⟨u, HR2.out, by unfold Hid; rw [HQ.out, HN.out], HB2.out⟩ | ((repeat apply Exists.intro); exact ⟨⟨u, HR2.out, by unfold Hid; rw [HQ.out, HN.out], HB2.out⟩, rfl⟩) | (refine ⟨trivial, ?_⟩; (repeat apply Exists.intro); exact ⟨⟨u, HR2.out, by unfold Hid; rw [HQ.out, HN.out], HB2.out⟩, rfl⟩)
        case measure => exact HD.out
theorem jjJ (b : Nat) (s : List UInt8) (w : World) (hR : RB w b s) (hs : s.length ≤ 1048576) :
 Calls Tryz.prog 224 #[.pointer (some ⟨b, 0, none⟩)] w (Rd b w ((zI s).map fun r => (.tuple #[], r))) := by
 have HR : Hid (RB w b s) := hR; clear hR; go_enter Tryz.func224, Tryz.ntmps224; go_wp2
 go_loopw [6] (fun _ wr => ∃ t, t.length ≤ 1048576 ∧ RB wr b t ∧ Hid (zI s = zI t) ∧ But b w wr) (fun _ wr => qo b wr)
 case atStart => exact ⟨s, hs, HR.out, rfl, But.refl _ _⟩
 case round =>
  obtain ⟨t, htl, hRr, HQ, hBr⟩ := hrel; have HRr : Hid (RB wr b t) := hRr; have hc := hRr.cell; have HP : Hid (Lib.hasPrefix (S t).data.toList (⟨#[34]⟩ : ByteArray).data.toList = (zr 34 t).isSome) := by unfold Hid; rw [jj]; exact jc0 34 _
  clear hRr
  by_cases h34 : ∃ u, t = 34 :: u
  · obtain ⟨u, rfl⟩ := h34; have HT : Hid ((zr 34 (34 :: u)).isSome = true) := rfl; have HN : Hid _ := jbj u; go_wp2_with fail; refine (hasPrefix_any (S (34 :: u)) ⟨#[34]⟩ _).mono ?_; rintro e v ⟨rfl, hv⟩; have hv' := hv.symm; subst hv'; rw [HP.out, HT.out]; go_wp2_with fail; refine (jhr b u _ HRr.out).mono ?_; cases hq : jY false u with
    | none =>
      rintro e v ⟨rfl, hB⟩; have HE : Hid (zI s = none) := by unfold Hid; rw [HQ.out, HN.out, hq]; rfl
      clear hq; go_wp2; rw [HE.out]; exact ⟨rfl, rfl, hBr.trans hB⟩
    | some r =>
      rintro e v ⟨rfl, hR2, hB⟩; have HE : Hid (zI s = zI (ju r)) := by unfold Hid; rw [HQ.out, HN.out, hq]; rfl
      have hql := jaa hq; have hbl := jU r; have HR2 : Hid (RB v b r) := hR2; clear hq hR2; go_wp2_with fail; refine (qG b r _ HR2.out).mono ?_; rintro e v2 ⟨rfl, hR3, hB2⟩; have HD : Hid (qo b v2 < qo b wr) := by
       unfold Hid; rw [zp hR3, zp HRr.out]; simp; omega
      have HR3 : Hid (RB v2 b (ju r)) := hR3; have HB3 : Hid (But b w v2) := (hBr.trans hB).trans hB2; have hl3 : (ju r).length ≤ 1048576 := by simp at htl; omega
      clear hR3 hB hB2 hBr; go_wp2
      go_roundw
      case rel => first | exact ⟨ju r, hl3, HR3.out, HE, HB3.out⟩ | ((repeat apply Exists.intro); exact ⟨⟨ju r, hl3, HR3.out, HE, HB3.out⟩, rfl⟩) | (refine ⟨trivial, ?_⟩; (repeat apply Exists.intro); exact ⟨⟨ju r, hl3, HR3.out, HE, HB3.out⟩, rfl⟩)
      case measure => exact HD.out
  · have HT : Hid ((zr 34 t).isSome = false) := by
        unfold Hid; cases ht : zr 34 t with
        | none => rfl
        | some r => exact absurd ⟨r, zz ht⟩ h34
    go_wp2_with fail; refine (hasPrefix_any (S t) ⟨#[34]⟩ _).mono ?_; rintro e v ⟨rfl, hv⟩; have hv' := hv.symm; subst hv'; rw [HP.out, HT.out]; go_wp2_with fail; refine (jfB b t _ HRr.out htl).mono ?_; rintro e v ⟨rfl, hR2, hB⟩; have HR2 : Hid (RB v b (j9 t)) := hR2; clear hR2; cases hw : wrun t with
    | nil =>
      have HE : Hid (zI s = some (j9 t)) := by
       unfold Hid; rw [HQ.out]; have hrr := vP t; rw [hw, List.nil_append] at hrr; rw [hrr]; cases t with
       | nil => exact jba
       | cons c u =>
         refine jcm (fun e => h34 ⟨u, by rw [e]⟩) ?_; cases hr : runB c with
         | false => rfl
         | true => rw [jbF hr] at hw; cases hw
      have he := jbH; clear hw h34; go_wp2
      first | go_end0 | refine bodyPost_ret (results_none rfl _ _ _) rfl ?_
      rw [HE.out]; exact ⟨rfl, HR2.out, hBr.trans hB⟩
    | cons c u =>
      have hcr : ∃ u', t = c :: u' ∧ runB c = true := by
       cases t with
       | nil => cases hw
       | cons c' u' =>
         cases hr : runB c' with
         | false => rw [jjM hr] at hw; cases hw
         | true => rw [jbF hr] at hw; cases hw; exact ⟨u', rfl, hr⟩
      obtain ⟨u', htu, hcr⟩ := hcr; have HE : Hid (zI s = zI (ju (j9 t))) := by
       unfold Hid; rw [HQ.out, htu]; exact jda (fun e => h34 ⟨u', by rw [htu, e]⟩) hcr
      have hlen : (j9 t).length < t.length := by
       have := congrArg List.length (vP t); rw [hw] at this; simp at this; omega
      have hbl := jU (j9 t); have he := jbI c u; clear hw h34 htu hcr; go_wp2_with fail; refine (qG b (j9 t) _ HR2.out).mono ?_; rintro e v2 ⟨rfl, hR3, hB2⟩; have HD : Hid (qo b v2 < qo b wr) := by
       unfold Hid; rw [zp hR3, zp HRr.out]; omega
      have HR3 : Hid (RB v2 b (ju (j9 t))) := hR3; have HB3 : Hid (But b w v2) := (hBr.trans hB).trans hB2; clear hR3 hB hB2 hBr; go_wp2
      go_roundw
      case rel => first | exact ⟨ju (j9 t), by omega, HR3.out, HE, HB3.out⟩ | ((repeat apply Exists.intro); exact ⟨⟨ju (j9 t), by omega, HR3.out, HE, HB3.out⟩, rfl⟩) | (refine ⟨trivial, ?_⟩; (repeat apply Exists.intro); exact ⟨⟨ju (j9 t), by omega, HR3.out, HE, HB3.out⟩, rfl⟩)
      case measure => exact HD.out
theorem jkM (b : Nat) (s : List UInt8) (w : World) (hR : RB w b s) (hs : s.length ≤ 1048576) :
 Calls Tryz.prog 186 #[.pointer (some ⟨b, 0, none⟩)] w (Rd b w ((jE s).map fun x => (adrV x.1, x.2))) := by
 have hbw := hR.lt; have hne0 : b ≠ w.heap.size := by omega
 obtain ⟨W0, hW0⟩ : ∃ W0, W0 = w.alloc (.cells #[.string ⟨#[]⟩, .string ⟨#[]⟩] 76) := ⟨_, rfl⟩; have HP0 : Hid (Two W0 w.heap.size [] []) := by rw [hW0]; exact jdQ w
 have HR0 : Hid (RB W0 b s) := by rw [hW0]; exact hR.more _
 have HB0 : Hid (But b w W0) := by rw [hW0]; exact (But.refl b w).more _
 have HW : Hid _ := hW0; obtain ⟨s1, hs1⟩ : ∃ s1, s1 = ju s := ⟨_, rfl⟩; have hl1 : s1.length ≤ 1048576 := by rw [hs1]; have := jU s; omega
 have HA : Hid (jE s = (if (zr 64 (j9 s1)).isSome then zU s1 else jb4 s1).map fun x => (x.1, ju x.2)) := by unfold Hid jE; rw [hs1]
 have HS1 : Hid _ := hs1; clear hW0 hs1 hR; go_enter Tryz.func186, Tryz.ntmps186; go_wp2_with fail; rw [← HW.out]; refine (qG b s _ HR0.out).mono ?_; rw [← HS1.out]; rintro e w1 ⟨rfl, hR1, hB1⟩; have hsz1 : w.heap.size < w1.heap.size := by
  have h1 := HP0.out.lt; have h2 := hB1.size; omega
 have hnq : b ≠ w1.heap.size := by omega
 have hpq : w.heap.size ≠ w1.heap.size := by omega
 have hwq : w.heap.size ≤ w1.heap.size := by omega
 obtain ⟨W1, hW1⟩ : ∃ W1, W1 = w1.alloc (.cells #[.string ⟨#[]⟩, .string ⟨#[]⟩] 76) := ⟨_, rfl⟩; have HT1 : Hid (Two W1 w1.heap.size [] []) := by rw [hW1]; exact jdQ w1
 have HP1 : Hid (Two W1 w.heap.size [] []) := by rw [hW1]; exact (HP0.out.but hB1 hne0.symm).below (nb0 _ _)
 have HR1 : Hid (RB W1 b s1) := by rw [hW1]; exact hR1.more _
 have HB1 : Hid (But b w W1) := by rw [hW1]; exact (HB0.out.trans hB1).more _
 have HW1 : Hid _ := hW1; clear hW1 hR1 hB1; go_wp2_with fail; rw [← HW1.out]; refine (jbM b s1 _ HR1.out hl1).mono ?_; rintro e w2 ⟨rfl, hR2, hB2⟩; have HT2 : Hid (Two w2 w1.heap.size [] []) := HT1.out.but hB2 hnq.symm; have HP2 : Hid (Two w2 w.heap.size [] []) := HP1.out.but hB2 hne0.symm; have HR2 : Hid (RB w2 b s1) := hR2; have HB2 : Hid (But b w w2) := HB1.out.trans hB2; clear hR2 hB2; cases ht : (zr 64 (j9 s1)).isSome with
 | true =>
   have HA2 : Hid (jE s = (zU s1).map fun x => (x.1, ju x.2)) := by unfold Hid; rw [HA.out, ht]; rfl
   clear ht; go_wp2_with fail; refine (jes b s1 _ HR2.out hl1).mono ?_; cases hp : zU s1 with
   | none =>
     have HE : Hid (jE s = none) := by unfold Hid; rw [HA2.out, hp]; rfl
     clear hp; rintro e w3 ⟨rfl, hB3⟩; go_wp2; rw [HE.out]; exact ⟨rfl, rfl, HB2.out.trans hB3⟩
   | some x =>
     obtain ⟨a, r⟩ := x; have HE : Hid (jE s = some (a, ju r)) := by unfold Hid; rw [HA2.out, hp]; rfl
     clear hp; rintro e W3 ⟨rfl, hR3, hB3'⟩; have hT3 : Two W3 w1.heap.size [] [] := HT2.out.but hB3' hnq.symm; have hP3 : Two W3 w.heap.size [] [] := HP2.out.but hB3' hne0.symm; have hB3 : But b w W3 := HB2.out.trans hB3'; clear hB3'; rw [adrV]; have q0 := hT3.c0; have q1 := hT3.c1; have z0 := hT3.free 0; have z1 := hT3.free 1; have hT4 : Two ((W3.setCell ⟨w1.heap.size, 0, none⟩ (.string (S a.1))).setCell ⟨w1.heap.size, 1, none⟩ (.string (S a.2))) w1.heap.size a.1 a.2 := (hT3.set0 a.1).set1 a.2; have hP4 : Two ((W3.setCell ⟨w1.heap.size, 0, none⟩ (.string (S a.1))).setCell ⟨w1.heap.size, 1, none⟩ (.string (S a.2))) w.heap.size [] [] := (hP3.far hpq _).far hpq _; have hR4 : RB ((W3.setCell ⟨w1.heap.size, 0, none⟩ (.string (S a.1))).setCell ⟨w1.heap.size, 1, none⟩ (.string (S a.2))) b r := (hR3.far hnq _).far hnq _; have hB4 : But b w ((W3.setCell ⟨w1.heap.size, 0, none⟩ (.string (S a.1))).setCell ⟨w1.heap.size, 1, none⟩ (.string (S a.2))) := (hB3.far hwq _).far hwq _; have HT4 : Hid _ := hT4; have HP4 : Hid _ := hP4; have HR4 : Hid _ := hR4; have HB4 : Hid _ := hB4; clear hT4 hP4 hR4 hB4 hT3 hP3 hR3 hB3; go_wp2_with fail; refine (qG b r _ HR4.out).mono ?_; rintro e w5 ⟨rfl, hR5, hB5⟩; have hT5 := Two.but HT4.out hB5 hnq.symm; have hP5 := Two.but HP4.out hB5 hne0.symm; have hW5 : But b w w5 := But.trans HB4.out hB5; have d0 := hT5.c0; have d1 := hT5.c1; have e0 := hP5.c0; have e1 := hP5.c1; have g0 := hP5.free 0; have g1 := hP5.free 1; have hP6 := (hP5.set0 a.1).set1 a.2; have hR6 : RB ((w5.setCell ⟨w.heap.size, 0, none⟩ (.string (S a.1))).setCell ⟨w.heap.size, 1, none⟩ (.string (S a.2))) b (ju r) := (hR5.far hne0 _).far hne0 _; have hB6 : But b w ((w5.setCell ⟨w.heap.size, 0, none⟩ (.string (S a.1))).setCell ⟨w.heap.size, 1, none⟩ (.string (S a.2))) := (hW5.far (Nat.le_refl _) _).far (Nat.le_refl _) _; have k0 := hP6.c0; have k1 := hP6.c1; have HR6 : Hid _ := hR6; have HB6 : Hid _ := hB6; have HK : Hid _ := And.intro k0 k1; clear hP6 hR6 hB6 hT5 hP5 hR5 hB5 hW5 k0 k1 q0 q1 z0 z1; go_wp2; refine bodyPost_ret (v := .agg #[.string (S a.1), .string (S a.2)]) (by simp [results, Tryz.results186, go_sem, HK.out.1, HK.out.2]) rfl ?_; rw [HE.out]; exact ⟨rfl, HR6.out, HB6.out⟩
 | false =>
   have HA2 : Hid (jE s = (jb4 s1).map fun x => (x.1, ju x.2)) := by unfold Hid; rw [HA.out, ht]; rfl
   clear ht; go_wp2_with fail; refine (jjJ b s1 _ HR2.out hl1).mono ?_; cases hw : zI s1 with
   | none =>
     have HE : Hid (jE s = none) := by unfold Hid; rw [HA2.out, jb4, hw]; rfl
     clear hw; rintro e w3 ⟨rfl, hB3⟩; go_wp2; rw [HE.out]; exact ⟨rfl, rfl, HB2.out.trans hB3⟩
   | some r1 =>
     have hl2 : r1.length ≤ 1048576 := by have := jc9 _ _ _ (Nat.le_refl _) hw; omega
     have HA3 : Hid (jE s = ((zr 60 r1).bind fun r => (zU r).bind fun x => (zr 62 x.2).map fun r => (x.1, r)).map fun x => (x.1, ju x.2)) := by unfold Hid; rw [HA2.out, jb4, hw]; rfl
     clear hw; rintro e wa ⟨rfl, hRa, hBa⟩; have HTa : Hid (Two wa w1.heap.size [] []) := HT2.out.but hBa hnq.symm; have HPa : Hid (Two wa w.heap.size [] []) := HP2.out.but hBa hne0.symm; have HRa : Hid (RB wa b r1) := hRa; have HBa : Hid (But b w wa) := HB2.out.trans hBa; clear hRa hBa; go_wp2_with fail; refine (jaQ b 60 r1 _ HRa.out).mono ?_; cases h60 : zr 60 r1 with
     | none =>
       have HE : Hid (jE s = none) := by unfold Hid; rw [HA3.out, h60]; rfl
       clear h60; rintro e w3 ⟨rfl, hB3⟩; go_wp2; rw [HE.out]; exact ⟨rfl, rfl, HBa.out.trans hB3⟩
     | some r2 =>
       have hl3 : r2.length ≤ 1048576 := by have := congrArg List.length (zz h60); simp at this; omega
       have HA4 : Hid (jE s = ((zU r2).bind fun x => (zr 62 x.2).map fun r => (x.1, r)).map fun x => (x.1, ju x.2)) := by unfold Hid; rw [HA3.out, h60]; rfl
       clear h60; rintro e wb ⟨rfl, hRb, hBb⟩; have HTb : Hid (Two wb w1.heap.size [] []) := HTa.out.but hBb hnq.symm; have HPb : Hid (Two wb w.heap.size [] []) := HPa.out.but hBb hne0.symm; have HRb : Hid (RB wb b r2) := hRb; have HBb : Hid (But b w wb) := HBa.out.trans hBb; clear hRb hBb; go_wp2_with fail; refine (jes b r2 _ HRb.out hl3).mono ?_; cases hp : zU r2 with
       | none =>
         have HE : Hid (jE s = none) := by unfold Hid; rw [HA4.out, hp]; rfl
         clear hp; rintro e w3 ⟨rfl, hB3⟩; go_wp2; rw [HE.out]; exact ⟨rfl, rfl, HBb.out.trans hB3⟩
       | some x =>
         obtain ⟨a, r⟩ := x; have HA5 : Hid (jE s = ((zr 62 r).map fun r => (a, r)).map fun x => (x.1, ju x.2)) := by unfold Hid; rw [HA4.out, hp]; rfl
         clear hp; rintro e W3 ⟨rfl, hR3, hB3'⟩; have hT3 : Two W3 w1.heap.size [] [] := HTb.out.but hB3' hnq.symm; have hP3 : Two W3 w.heap.size [] [] := HPb.out.but hB3' hne0.symm; have hB3 : But b w W3 := HBb.out.trans hB3'; clear hB3'; rw [adrV]; have q0 := hT3.c0; have q1 := hT3.c1; have z0 := hT3.free 0; have z1 := hT3.free 1; have hT4 : Two ((W3.setCell ⟨w1.heap.size, 0, none⟩ (.string (S a.1))).setCell ⟨w1.heap.size, 1, none⟩ (.string (S a.2))) w1.heap.size a.1 a.2 := (hT3.set0 a.1).set1 a.2; have hP4 : Two ((W3.setCell ⟨w1.heap.size, 0, none⟩ (.string (S a.1))).setCell ⟨w1.heap.size, 1, none⟩ (.string (S a.2))) w.heap.size [] [] := (hP3.far hpq _).far hpq _; have hR4 : RB ((W3.setCell ⟨w1.heap.size, 0, none⟩ (.string (S a.1))).setCell ⟨w1.heap.size, 1, none⟩ (.string (S a.2))) b r := (hR3.far hnq _).far hnq _; have hB4 : But b w ((W3.setCell ⟨w1.heap.size, 0, none⟩ (.string (S a.1))).setCell ⟨w1.heap.size, 1, none⟩ (.string (S a.2))) := (hB3.far hwq _).far hwq _; have HT4 : Hid _ := hT4; have HP4 : Hid _ := hP4; have HR4 : Hid _ := hR4; have HB4 : Hid _ := hB4; clear hT4 hP4 hR4 hB4 hT3 hP3 hR3 hB3; go_wp2_with fail; refine (jaQ b 62 r _ HR4.out).mono ?_; cases h62 : zr 62 r with
         | none =>
           have HE : Hid (jE s = none) := by unfold Hid; rw [HA5.out, h62]; rfl
           clear h62; rintro e w4 ⟨rfl, hB4⟩; go_wp2; rw [HE.out]; exact ⟨rfl, rfl, But.trans HB4.out hB4⟩
         | some r3 =>
           have HE : Hid (jE s = some (a, ju r3)) := by unfold Hid; rw [HA5.out, h62]; rfl
           clear h62; rintro e w4 ⟨rfl, hRc, hBc⟩; have HTc : Hid (Two w4 w1.heap.size a.1 a.2) := Two.but HT4.out hBc hnq.symm; have HPc : Hid (Two w4 w.heap.size [] []) := Two.but HP4.out hBc hne0.symm; have HRc : Hid (RB w4 b r3) := hRc; have HBc : Hid (But b w w4) := But.trans HB4.out hBc; clear hRc hBc q0 q1 z0 z1; go_wp2_with fail; refine (qG b r3 _ HRc.out).mono ?_; rintro e w5 ⟨rfl, hR5, hB5⟩; have hT5 := Two.but HTc.out hB5 hnq.symm; have hP5 := Two.but HPc.out hB5 hne0.symm; have hW5 : But b w w5 := But.trans HBc.out hB5; have d0 := hT5.c0; have d1 := hT5.c1; have e0 := hP5.c0; have e1 := hP5.c1; have g0 := hP5.free 0; have g1 := hP5.free 1; have hP6 := (hP5.set0 a.1).set1 a.2; have hR6 : RB ((w5.setCell ⟨w.heap.size, 0, none⟩ (.string (S a.1))).setCell ⟨w.heap.size, 1, none⟩ (.string (S a.2))) b (ju r3) := (hR5.far hne0 _).far hne0 _; have hB6 : But b w ((w5.setCell ⟨w.heap.size, 0, none⟩ (.string (S a.1))).setCell ⟨w.heap.size, 1, none⟩ (.string (S a.2))) := (hW5.far (Nat.le_refl _) _).far (Nat.le_refl _) _; have k0 := hP6.c0; have k1 := hP6.c1; have HR6 : Hid _ := hR6; have HB6 : Hid _ := hB6; have HK : Hid _ := And.intro k0 k1; clear hP6 hR6 hB6 hT5 hP5 hR5 hB5 hW5 k0 k1; go_wp2; refine bodyPost_ret (v := .agg #[.string (S a.1), .string (S a.2)]) (by simp [results, Tryz.results186, go_sem, HK.out.1, HK.out.2]) rfl ?_; rw [HE.out]; exact ⟨rfl, HR6.out, HB6.out⟩
theorem jme : (Tryz.prog.info? 76).map (fun i => (i.zero, i.size, i.bytes)) = some (some (.agg #[.string ByteArray.empty, .string ByteArray.empty]), 2, 32) := by kernel_rfl
def vz (l : List Adr) : List Value := l.flatMap fun a => [.string (S a.1), .string (S a.2)]
theorem je6 (l : List Adr) (a : Adr) : vz (l ++ [a]) = vz l ++ [.string (S a.1), .string (S a.2)] := by simp [vz]
theorem jgA {l : List Adr} {i : Nat} {a : Adr} (h : l[i]? = some a) : (vz l)[i * 2]? = some (.string (S a.1)) ∧ (vz l)[i * 2 + 1]? = some (.string (S a.2)) := by
 induction l generalizing i with
 | nil => simp at h
 | cons g l ih =>
   cases i with
   | zero => simp at h; subst h; simp [vz]
   | succ i =>
     have := ih (i := i) (by simpa using h); have e1 : (i + 1) * 2 = i * 2 + 2 := by omega
     rw [e1]
     simpa [vz] using this
def OwnA (w : World) (B : Nat) (v : Value) (l : List Adr) : Prop := w.ownsRow B 76 2 v l.length (vz l)
def AdrsAt (w : World) (a : Option Addr) (l : List Adr) : Prop :=
 ∀ (i : Nat) x, l[i]? = some x → ∃ b, a = some ⟨b, 0, none⟩ ∧ b < w.heap.size ∧ w.cell? ⟨b, i * 2, none⟩ = some (.string (S x.1)) ∧ w.cell? ⟨b, i * 2 + 1, none⟩ = some (.string (S x.2))
theorem AdrsAt.below {w w' : World} {a : Option Addr} {l : List Adr} (h : AdrsAt w a l) (hb : Below w.heap.size w w') : AdrsAt w' a l := by
 intro i x hx; obtain ⟨b, ha, hlt, h1, h2⟩ := h i x hx; exact ⟨b, ha, Nat.lt_of_lt_of_le hlt hb.size, ja h1 hb, ja h2 hb⟩
theorem OwnA.any {w : World} {B : Nat} {v : Value} {l : List Adr} (h : OwnA w B v l) : ∃ a cap, v = .slice a l.length cap := by
 rcases h.2 with ⟨rfl, hn⟩ | ⟨g, cap, cur, rfl, _⟩
 · exact ⟨none, 0, by rw [hn]⟩
 · exact ⟨_, _, rfl⟩
theorem OwnA.at {w : World} {B : Nat} {a : Option Addr} {c : Nat} {l : List Adr} (h : OwnA w B (.slice a l.length c) l) : AdrsAt w a l := by
 intro i x hx; have hi : i < l.length := (List.getElem?_eq_some_iff.1 hx).1
 rcases h.2 with ⟨_, hn⟩ | ⟨g, cap, cur, hv, hb, hg, q⟩
 · omega
 · simp only [Value.slice.injEq, true_and] at hv; obtain ⟨rfl, rfl⟩ := hv; have hgl : g < w.heap.size := by
    rcases Nat.lt_or_ge g w.heap.size with h' | h'
    · exact h'
    · rw [Array.getElem?_eq_none h'] at hg; cases hg
   obtain ⟨h1, h2⟩ := jgA hx; refine ⟨g, rfl, hgl, ?_, ?_⟩
   · rw [World.ownsRow.cellAt h (i * 2) (by omega)]; exact h1
   · rw [World.ownsRow.cellAt h (i * 2 + 1) (by omega)]; exact h2
def jfS (B : Nat) (a : Option Addr) (l : List Adr) : Prop := ∀ (i : Nat) x, l[i]? = some x → ∃ b, a = some ⟨b, 0, none⟩ ∧ B ≤ b
theorem OwnA.from {w : World} {B : Nat} {a : Option Addr} {c : Nat} {l : List Adr} (h : OwnA w B (.slice a l.length c) l) : jfS B a l := by
 intro i x hx; have hi : i < l.length := (List.getElem?_eq_some_iff.1 hx).1
 rcases h.2 with ⟨_, hn⟩ | ⟨g, cap, cur, hv, hb, hg, q⟩
 · omega
 · simp only [Value.slice.injEq, true_and] at hv; obtain ⟨rfl, rfl⟩ := hv; exact ⟨g, rfl, hb⟩
theorem AdrsAt.set {w : World} {B : Nat} {a : Option Addr} {l : List Adr} (h : AdrsAt w a l) (hf : jfS B a l) {p : Addr} (hp : p.block < B) (v : Value) : AdrsAt (w.setCell p v) a l := by
 intro i x hx; obtain ⟨b, ha, hlt, h1, h2⟩ := h i x hx; obtain ⟨b', ha', hB⟩ := hf i x hx; obtain rfl : b = b' := by rw [ha] at ha'; simpa using ha'
 have hh : (w.setCell p v).heap[b]? = w.heap[b]? := Below.heap_setCell _ _ _ _ (by omega); exact ⟨b, ha, by simpa [World.setCell] using hlt, (World.cell?_of_block (w := w) (a := ⟨b, i * 2, none⟩) hh).trans h1, (World.cell?_of_block (w := w) (a := ⟨b, i * 2 + 1, none⟩) hh).trans h2⟩
theorem jkH (w : World) (x y : Value) (t : TypeId) : ∀ (j : Nat) u, [x, y][j]? = some u → (w.alloc (.cells #[x, y] t)).cell? ((⟨w.heap.size, 0, none⟩ : Addr).add j) = some u := by
 intro j u hj; rw [Addr.add_lit, Nat.zero_add]
 match j, hj with
 | 0, hj => simp at hj; subst hj; simp
 | 1, hj => simp at hj; subst hj; simp
theorem jnm (w : World) (s : List UInt8) : RB (w.alloc (.cells #[.string (S s)] 263)) w.heap.size s := by
 unfold RB
 show (w.heap.push _)[w.heap.size]? = _
 rw [Array.getElem?_push_size]
def Ls (w : World) (o : Option (List Adr)) (e : Ending) (w' : World) : Prop :=
 match o with
 | some l => ∃ a c, e = .returned (.slice a l.length c) ∧ AdrsAt w' a l ∧ jfS w.heap.size a l ∧ Below w.heap.size w w'
 | none => e = .panicked jax ∧ Below w.heap.size w w'
theorem jev (s : List UInt8) (w : World) (hs : s.length ≤ 2000) :
 Calls Tryz.prog 150 #[.string (S s)] w (Ls w (vj s)) := by
 obtain ⟨i0, hi, hz0, hz1, hz2⟩ := info_parts jme; obtain ⟨W0, hW0⟩ : ∃ W0, W0 = w.alloc (.cells #[.string (S s)] 263) := ⟨_, rfl⟩; have HR0 : Hid (RB W0 w.heap.size s) := by rw [hW0]; exact jnm w s
 have HB0 : Hid (Below w.heap.size w W0) := by rw [hW0]; exact nb0 _ _
 have hz : w.heap.size + 1 ≤ W0.heap.size := by rw [hW0]; simp
 have HW : Hid _ := hW0; clear hW0; go_enter Tryz.func150, Tryz.ntmps150; go_wp2; rw [← HW.out]
 go_loopw [4] (fun v wr => ∃ (done : List Adr) (t : List UInt8) (a0 : Option Addr) (c0 : Nat), v = .slice a0 done.length c0 ∧ OwnA wr (w.heap.size + 1) (.slice a0 done.length c0) done ∧ RB wr w.heap.size t ∧ done.length + t.length ≤ 2000 ∧
  Hid (vj s = (vj t).map (done ++ ·)) ∧ Below w.heap.size w wr ∧ w.heap.size + 1 ≤ wr.heap.size) (fun _ wr => qo w.heap.size wr)
 case atStart => exact ⟨[], s, none, 0, rfl, World.ownsRow_nil _ _ _ _, HR0.out, by simpa using hs, by unfold Hid; simp, HB0.out, hz⟩
 case round =>
  obtain ⟨done, t, a0, c0, rfl, hO, hRr, hlen, HQ, hBr, hzr⟩ := hrel; have HRr : Hid (RB wr w.heap.size t) := hRr; have hO' : wr.ownsRow (w.heap.size + 1) 76 2 (.slice a0 done.length c0) done.length (vz done) := hO; have HO : Hid _ := hO'; clear hRr hO hO' hz; go_wp2_with fail; refine (jkM w.heap.size t _ HRr.out (by omega)).mono ?_; cases ha : jE t with
  | none =>
    have HE : Hid (vj s = none) := by unfold Hid; rw [HQ.out, jhb ha]; rfl
    clear ha; rintro e w1 ⟨rfl, hB⟩; go_wp2; rw [HE.out]; exact ⟨rfl, rfl, hBr.trans (hB.below (Nat.le_refl _) (by omega))⟩
  | some x =>
    obtain ⟨a, r⟩ := x; have hrl := vw ha; rintro e w1 ⟨rfl, hR1, hB⟩; rw [adrV]; have hO1 : w1.ownsRow (w.heap.size + 1) 76 2 (.slice a0 done.length c0) done.length (vz done) := qE HO.out hB (by omega); have hz1' : w.heap.size + 1 ≤ w1.heap.size := Nat.le_trans hzr hB.size; have hBw1 : Below w.heap.size w w1 := hBr.trans (hB.below (Nat.le_refl _) (by omega)); have HR1 : Hid (RB w1 w.heap.size r) := hR1; have HA : Hid _ := ha; clear ha hR1 hB
    go_wp2_with (at_builtin; refine wpList_append_own _ rfl _ _ 77 rfl (w.heap.size + 1) 76 i0 _ 2 32 Tryz.underlying77 hi hz0 hz1 hz2 rfl (by decide) (.slice a0 done.length c0) done.length (vz done) rfl (World.ownsRow.alloc hO1 _) ⟨w1.heap.size, 0, none⟩ 1 1 [.string (S a.1), .string (S a.2)] rfl rfl (jkH _ _ _ _) ?c2 ?c3 ?c4 ?c5 ?_)
    case c2 => intro u hu; simp at hu; rcases hu with rfl | rfl <;> rfl
    case c3 => unfold maxLen; omega
    case c4 => omega
    case c5 => simp; omega
    intro v' w2 hown' hgrow _; have hBb : Below (w.heap.size + 1) w1 w2 := ((Below.refl _ _).alloc hz1' _).grown hgrow (by simp; omega) (fun j hj => (World.ownsRow.lt hO1 j hj).1); have HR2 : Hid (RB w2 w.heap.size r) := (hBb.block _ (Nat.lt_succ_self _)).trans HR1.out; have hB2 : Below w.heap.size w w2 := hBw1.trans (hBb.mono (Nat.le_succ _)); have hz2' : w.heap.size + 1 ≤ w2.heap.size := Nat.le_trans hz1' hBb.size; have hO2 : OwnA w2 (w.heap.size + 1) v' (done ++ [a]) := by unfold OwnA; rw [je6, List.length_append]; exact hown'
    obtain ⟨a2, c2, hv2⟩ := hO2.any; subst hv2; have HO2 : Hid (OwnA w2 (w.heap.size + 1) (.slice a2 (done ++ [a]).length c2) (done ++ [a])) := hO2; have c1 := HR2.out.cell; clear hO2 hown' hgrow hBb hBw1 hO1; cases r with
    | nil =>
      have HE : Hid (vj s = some (done ++ [a])) := by unfold Hid; rw [HQ.out, jiK HA.out]; rfl
      have he := jbH; go_wp2; go_ret; rw [HE.out]; exact ⟨a2, c2, rfl, HO2.out.at, fun i x hx => by obtain ⟨b, h1, h2⟩ := HO2.out.from i x hx; exact ⟨b, h1, by omega⟩, hB2⟩
    | cons c u =>
      have he := jbI c u; go_wp2_with fail; refine (jaQ w.heap.size 44 (c :: u) _ HR2.out).mono ?_; cases ht : zr 44 (c :: u) with
      | none =>
        have HE : Hid (vj s = none) := by unfold Hid; rw [HQ.out, jiJ HA.out (by simp) ht]; rfl
        clear ht; rintro e w3 ⟨rfl, hB3⟩; go_wp2; rw [HE.out]; exact ⟨rfl, rfl, hB2.trans (hB3.below (Nat.le_refl _) (by omega))⟩
      | some r' =>
        have hcu := zz ht; have HE : Hid (vj s = (vj r').map ((done ++ [a]) ++ ·)) := by
            unfold Hid; have hh := HA.out; rw [hcu] at hh; rw [HQ.out, jha hh, Option.map_map]
            congr 1
            funext z
            simp
        have hul : u.length = r'.length := by have := congrArg List.length hcu; simpa using this
        clear ht hcu; rintro e w3 ⟨rfl, hR3, hB3⟩; have HD : Hid (qo w.heap.size w3 < qo w.heap.size wr) := by
            unfold Hid; rw [zp hR3, zp HRr.out]
            simp at hrl; omega
        have HR3 : Hid (RB w3 w.heap.size r') := hR3; have HO3 : Hid (OwnA w3 (w.heap.size + 1) (.slice a2 (done ++ [a]).length c2) (done ++ [a])) := qE HO2.out hB3 (by omega); have HB3 : Hid (Below w.heap.size w w3) := hB2.trans (hB3.below (Nat.le_refl _) (by omega)); have hz3 : w.heap.size + 1 ≤ w3.heap.size := Nat.le_trans hz2' hB3.size; have hl3 : (done ++ [a]).length + r'.length ≤ 2000 := by simp at hrl ⊢; omega
        clear hR3 hB3; go_wp2
        go_roundw
        case rel => exact ⟨done ++ [a], r', a2, c2, by first | rfl | simp, HO3.out, HR3.out, hl3, HE, HB3.out, hz3⟩
        case measure => exact HD.out
theorem jcL (p q : Addr) (w : World) :
 CallsD Tryz.prog 149 #[.pointer (some p), .pointer (some q)] .returning w fun e u' w' => e = .returned (.tuple #[]) ∧ u' = .returning ∧ w' = w := by
 refine callsD_of_wpS Tryz.func149 rfl fun c₀ cs hu => ?_
 have hnil : ∀ w : World, (binOp BinOp.neq 20 .nilIface .nilIface).run Tryz.prog w = .ok (.bool false) w := fun _ => by kernel_rfl
 apply wpS_seq
 apply wpS_region
 simp [wpOpsS, go_sem, recoverD, hu, Tryz.ntmps149, Exit.thenS]
 apply wpS_seq
 apply wpS_region
 simp [wpOpsS, go_sem, Exit.thenS, hnil]
 refine wpS_cond (t := false) (by simp [Act.eval, Array.replicate]) ?_; simp only [Bool.false_eq_true, if_false]; refine wpS_of_wp (wp_skip ?_); cases c₀
 simp_all [bodyPostS, results, Tryz.results149]
theorem jgz (p q : Addr) (v : Value) (n : Int) (w : World) (hp : w.cell? p = some v) (hpf : w.frozen? p = false) (hq : w.cell? q = some (.int .i64 n)) (hqf : w.frozen? q = false) (hpq : p ≠ q) :
 CallsD Tryz.prog 149 #[.pointer (some p), .pointer (some q)] (.panicking jax) w fun e u' w' => e = .returned (.tuple #[]) ∧ u' = .panicking [{ v := .iface 40 (.int .i64 3), recovered := true }] ∧ w' = ((w.setCell p (.slice none 0 0)).setCell q (.int .i64 3)).drew := by
 refine callsD_of_wpS Tryz.func149 rfl fun c₀ cs hu => ?_
 have hnil : ∀ w : World, (binOp BinOp.neq 20 (.iface 40 (.int .i64 3)) .nilIface).run Tryz.prog w = .ok (.bool true) w := fun _ => by kernel_rfl
 unfold jax at hu
 apply wpS_seq
 apply wpS_region
 simp [wpOpsS, go_sem, recoverD, hu, Tryz.ntmps149, Exit.thenS]
 apply wpS_seq
 apply wpS_region
 simp [wpOpsS, go_sem, Exit.thenS, hnil]
 refine wpS_cond (t := true) (by simp [Act.eval, Array.replicate]) ?_; simp only [if_true]; refine wpS_of_wp ?_; have hass : ∀ w : World, (Instr.typeAssert (.iface 40 (.int .i64 3)) 20 40 false).run Tryz.prog w = .ok (.int .i64 3) w := fun _ => by kernel_rfl
 have hpf' : w.drew.frozen? p = false := hpf; have hp' : w.drew.cell? p = some v := hp; have hqf' : w.drew.frozen? q = false := hqf; have hq' : w.drew.cell? q = some (.int .i64 n) := hq; have hq2 : (w.drew.setCell p (.slice none 0 0)).cell? q = some (.int .i64 n) := (World.cell?_setCell_other _ _ _ _ (by first | exact hpq | exact hpq.symm)).trans hq; have hqf2 : (w.drew.setCell p (.slice none 0 0)).frozen? q = false := by simpa using hqf
 show Code.wp _ _ _ { tmps := #[.pointer (some p), .pointer (some q), .iface 40 (.int .i64 3), .iface 40 (.int .i64 3), .iface 40 (.int .i64 3), .bool true, undef, undef], defers := [] } w
 clear hnil
 go_region_with (fail)
 all_goals exact ⟨rfl, _, rfl, .tuple #[], by simp [results, Tryz.results149], rfl, rfl, rfl⟩
def jjO (w : World) (o : List Adr × Int) (e : Ending) (w' : World) : Prop :=
 ∃ a c, e = .returned (.tuple #[.slice a o.1.length c, .int .i64 o.2]) ∧ AdrsAt w' a o.1 ∧ Below w.heap.size w w'
theorem jde (w : World) (a : Option Addr) : AdrsAt w a [] := fun i x h => by simp at h
theorem jko (s : ByteArray) (w : World) (hs : s.size ≤ maxLen) :
 Calls Tryz.prog 111 #[.string s] w (jjO w (vi s.data.toList)) := by
 unfold maxLen at hs; have hmf : ∀ (fn : Fn) (first cap : Array Value) (w : World), (Instr.makeFunc fn first cap).run Tryz.prog w = .ok (.func fn first cap) w := fun _ _ _ _ => rfl
 obtain ⟨W0, hW0⟩ : ∃ W0, W0 = (w.alloc (.cells #[.slice none 0 0] 77)).alloc (.cells #[.int .i64 0] 40) := ⟨_, rfl⟩; have hB0 : Below w.heap.size w W0 := by rw [hW0]; exact (nb0 _ _).alloc (by simp) _
 have hz0 : W0.heap.size = w.heap.size + 2 := by rw [hW0]; simp
 have c0 : W0.cell? ⟨w.heap.size, 0, none⟩ = some (.slice none 0 0) := by rw [hW0]; simp
 have c1 : W0.cell? ⟨w.heap.size + 1, 0, none⟩ = some (.int .i64 0) := by rw [hW0]; simp
 have f0 : W0.frozen? ⟨w.heap.size, 0, none⟩ = false := by rw [hW0]; simp
 have f1 : W0.frozen? ⟨w.heap.size + 1, 0, none⟩ = false := by rw [hW0]; simp
 have HW : Hid _ := hW0; clear hW0
 by_cases hbig : 2000 < s.size
 · have HM : Hid (vi s.data.toList = ([], 1)) := by unfold Hid vi; rw [size_list, if_pos hbig]
   have hbig' : (2000 : Int) < (s.size : Int) := by omega
   clear hbig
   go_enter_defers Tryz.func111, Tryz.ntmps111
   go_wp2; refine ⟨.tuple #[.slice none 0 0, .int .i64 1], by simp [results, Tryz.results111, go_sem], ?_⟩; rw [HM.out]; exact ⟨none, 0, rfl, jde _ _, (nb0 _ _).alloc (by simp) _⟩
 · have hbig' : ¬ (2000 : Int) < (s.size : Int) := by omega
   have HS : Hid (S s.data.toList = s) := jdY s; have HL : Hid (s.data.toList.length ≤ 2000) := by unfold Hid; rw [size_list]; omega
   go_enter_defers Tryz.func111, Tryz.ntmps111
   go_wp2_with fail; rw [← HW.out]; have hcall := jev s.data.toList W0 HL.out; rw [HS.out] at hcall; refine hcall.mono ?_; have hpq : (⟨w.heap.size, 0, none⟩ : Addr) ≠ ⟨w.heap.size + 1, 0, none⟩ := by simp
   cases hl : vj s.data.toList with
   | none =>
     have HM : Hid (vi s.data.toList = ([], 3)) := by unfold Hid vi; rw [size_list, if_neg hbig, hl]
     clear hl hcall; rintro e w1 ⟨rfl, hb⟩; have d0 := ja c0 hb; have d1 := ja c1 hb; have g0 : w1.frozen? ⟨w.heap.size, 0, none⟩ = false := (hb.frozen (by simp [hz0])).trans f0; have g1 : w1.frozen? ⟨w.heap.size + 1, 0, none⟩ = false := (hb.frozen (by simp [hz0])).trans f1; have hB1 := jfQ hB0 hb (Nat.le_refl _); refine leaves_cons (f := 149) (args := #[.pointer (some ⟨w.heap.size, 0, none⟩), .pointer (some ⟨w.heap.size + 1, 0, none⟩)]) (by simp) (by simp [go_sem]) ?_; refine (jgz _ _ _ _ _ d0 g0 d1 g1 hpq).mono ?_; rintro e u' w2 ⟨rfl, rfl, rfl⟩; have k0 : ((w1.setCell ⟨w.heap.size, 0, none⟩ (.slice none 0 0)).setCell ⟨w.heap.size + 1, 0, none⟩ (.int .i64 3)).drew.cell? ⟨w.heap.size, 0, none⟩ = some (.slice none 0 0) :=
        (World.cell?_setCell_other _ _ _ _ (by simp)).trans (World.cell?_setCell_same' w1 _ _ (by rw [d0]; rfl))
     have k1 : ((w1.setCell ⟨w.heap.size, 0, none⟩ (.slice none 0 0)).setCell ⟨w.heap.size + 1, 0, none⟩ (.int .i64 3)).drew.cell? ⟨w.heap.size + 1, 0, none⟩ = some (.int .i64 3) :=
        World.cell?_setCell_same' _ _ _ (by rw [World.cell?_setCell_other _ _ _ _ (by simp), d1]; rfl)
     show ∃ v, (results Tryz.f111 _).run Tryz.prog _ = .ok v _ ∧ jjO w _ (.returned v) _
     refine ⟨.tuple #[.slice none 0 0, .int .i64 3], by simp [results, Tryz.results111, go_sem, k0, k1], ?_⟩; rw [HM.out]; exact ⟨none, 0, rfl, jde _ _, ((hB1.setCell (Nat.le_refl _) _).setCell (by simp) _).drew⟩
   | some l =>
     clear hcall; rintro e w1 ⟨a, c, rfl, hA, hF, hb⟩; have d0 := ja c0 hb; have d1 := ja c1 hb; have g0 : w1.frozen? ⟨w.heap.size, 0, none⟩ = false := (hb.frozen (by simp [hz0])).trans f0; have g1 : w1.frozen? ⟨w.heap.size + 1, 0, none⟩ = false := (hb.frozen (by simp [hz0])).trans f1; have hB1 := jfQ hB0 hb (Nat.le_refl _); have HB1 : Hid _ := hB1; have HA : Hid (AdrsAt w1 a l) := hA; have HF : Hid (jfS (w.heap.size + 2) a l) := by rw [← hz0]; exact hF
     have HLL : Hid _ := hl; clear hl hA hF hB0 hB1 c0 c1 f0 f1
     by_cases hfull : 20 < l.length
     · have HM : Hid (vi s.data.toList = ([], 5)) := by unfold Hid vi; rw [size_list, if_neg hbig, HLL.out]; simp only; rw [if_pos hfull]
       have hfull' : (20 : Int) < (l.length : Int) := by omega
       clear hfull; go_wp2; refine leaves_cons (f := 149) (args := #[.pointer (some ⟨w.heap.size, 0, none⟩), .pointer (some ⟨w.heap.size + 1, 0, none⟩)]) (by simp) (by simp [go_sem]) ?_; refine (jcL _ _ _).mono ?_; rintro e u' w2 ⟨rfl, rfl, rfl⟩; have k0 : (((w1.setCell ⟨w.heap.size, 0, none⟩ (.slice a l.length c)).setCell ⟨w.heap.size, 0, none⟩ (.slice none 0 0)).setCell ⟨w.heap.size + 1, 0, none⟩ (.int .i64 5)).cell? ⟨w.heap.size, 0, none⟩ = some (.slice none 0 0) :=
        (World.cell?_setCell_other _ _ _ _ (by simp)).trans (World.cell?_setCell_same' _ _ _ (by rw [World.cell?_setCell_same' w1 _ _ (by rw [d0]; rfl)]; rfl))
       have k1 : (((w1.setCell ⟨w.heap.size, 0, none⟩ (.slice a l.length c)).setCell ⟨w.heap.size, 0, none⟩ (.slice none 0 0)).setCell ⟨w.heap.size + 1, 0, none⟩ (.int .i64 5)).cell? ⟨w.heap.size + 1, 0, none⟩ = some (.int .i64 5) :=
        World.cell?_setCell_same' _ _ _ (by rw [World.cell?_setCell_other _ _ _ _ (by simp), World.cell?_setCell_other _ _ _ _ (by simp), d1]; rfl)
       show ∃ v, (results Tryz.f111 _).run Tryz.prog _ = .ok v _ ∧ jjO w _ (.returned v) _
       refine ⟨.tuple #[.slice none 0 0, .int .i64 5], by simp [results, Tryz.results111, go_sem, k0, k1], ?_⟩; rw [HM.out]; exact ⟨none, 0, rfl, jde _ _, ((HB1.out.setCell (Nat.le_refl _) _).setCell (Nat.le_refl _) _).setCell (by simp) _⟩
     · have HM : Hid (vi s.data.toList = (l, 0)) := by unfold Hid vi; rw [size_list, if_neg hbig, HLL.out]; simp only; rw [if_neg hfull]
       have hfull' : ¬ (20 : Int) < (l.length : Int) := by omega
       clear hfull; go_wp2; refine leaves_cons (f := 149) (args := #[.pointer (some ⟨w.heap.size, 0, none⟩), .pointer (some ⟨w.heap.size + 1, 0, none⟩)]) (by simp) (by simp [go_sem]) ?_; refine (jcL _ _ _).mono ?_; rintro e u' w2 ⟨rfl, rfl, rfl⟩; have k0 : (((w1.setCell ⟨w.heap.size, 0, none⟩ (.slice a l.length c)).setCell ⟨w.heap.size, 0, none⟩ (.slice a l.length c)).setCell ⟨w.heap.size + 1, 0, none⟩ (.int .i64 0)).cell? ⟨w.heap.size, 0, none⟩ = some (.slice a l.length c) :=
        (World.cell?_setCell_other _ _ _ _ (by simp)).trans (World.cell?_setCell_same' _ _ _ (by rw [World.cell?_setCell_same' w1 _ _ (by rw [d0]; rfl)]; rfl))
       have k1 : (((w1.setCell ⟨w.heap.size, 0, none⟩ (.slice a l.length c)).setCell ⟨w.heap.size, 0, none⟩ (.slice a l.length c)).setCell ⟨w.heap.size + 1, 0, none⟩ (.int .i64 0)).cell? ⟨w.heap.size + 1, 0, none⟩ = some (.int .i64 0) :=
        World.cell?_setCell_same' _ _ _ (by rw [World.cell?_setCell_other _ _ _ _ (by simp), World.cell?_setCell_other _ _ _ _ (by simp), d1]; rfl)
       show ∃ v, (results Tryz.f111 _).run Tryz.prog _ = .ok v _ ∧ jjO w _ (.returned v) _
       refine ⟨.tuple #[.slice a l.length c, .int .i64 0], by simp [results, Tryz.results111, go_sem, k0, k1], ?_⟩; rw [HM.out]; exact ⟨a, c, rfl, ((HA.out.set HF.out (by simp) _).set HF.out (by simp) _).set HF.out (by simp) _, ((HB1.out.setCell (Nat.le_refl _) _).setCell (Nat.le_refl _) _).setCell (by simp) _⟩
end Go.Proofs.YtmgdnhjemhhleaaGreatDoor
