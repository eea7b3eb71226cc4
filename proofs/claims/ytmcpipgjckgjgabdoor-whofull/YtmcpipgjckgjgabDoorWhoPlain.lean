/-
  What the reader's plain does: the walk.
-/
import Derived.Test.YtmcpipgjckgjgabDoorWhoRun
namespace Go.Proofs.YtmcpipgjckgjgabDoor
open Go.RowKit

theorem But.far {b : Nat} {w w1 : World} (h : But b w w1) {p : Addr} (hp : w.heap.size ≤ p.block) (v : Value) : But b w (w1.setCell p v) :=
  ⟨h.os, h.tape, h.output, by simpa [World.setCell] using h.size, fun k hk hn => (Below.heap_setCell _ _ _ _ (by omega)).trans (h.block k hk hn)⟩
theorem But.more {b : Nat} {w w1 : World} (h : But b w w1) (o : Obj) : But b w (w1.alloc o) :=
  h.trans (But.of ((Below.refl _ _).alloc (Nat.le_refl _) o))
theorem RB.far {w : World} {b : Nat} {s : List UInt8} (h : RB w b s) {p : Addr} (hn : b ≠ p.block) (v : Value) : RB (w.setCell p v) b s :=
  (Below.heap_setCell _ _ _ _ hn).trans h
theorem RB.more {w : World} {b : Nat} {s : List UInt8} (h : RB w b s) (o : Obj) : RB (w.alloc o) b s := h.below ((Below.refl _ _).alloc (Nat.le_refl _) o)
/-- A block of two texts that the method has made. -/
def Two (w : World) (b : Nat) (x y : List UInt8) : Prop := w.heap[b]? = some (.cells #[.string (S x), .string (S y)] 32)
theorem Two.c0 {w : World} {b : Nat} {x y : List UInt8} (h : Two w b x y) : w.cell? ⟨b, 0, none⟩ = some (.string (S x)) := by unfold Two at h; simp [World.cell?, h]
theorem Two.c1 {w : World} {b : Nat} {x y : List UInt8} (h : Two w b x y) : w.cell? ⟨b, 1, none⟩ = some (.string (S y)) := by unfold Two at h; simp [World.cell?, h]
theorem Two.free {w : World} {b : Nat} {x y : List UInt8} (h : Two w b x y) (o : Nat) : w.frozen? ⟨b, o, none⟩ = false := by unfold Two at h; simp [World.frozen?, h]
theorem Two.lt {w : World} {b : Nat} {x y : List UInt8} (h : Two w b x y) : b < w.heap.size := World.block_lt_of_cell? w _ h.c0
theorem Two.set0 {w : World} {b : Nat} {x y : List UInt8} (h : Two w b x y) (z : List UInt8) : Two (w.setCell ⟨b, 0, none⟩ (.string (S z))) b z y := setCell_mark _ h
theorem Two.set1 {w : World} {b : Nat} {x y : List UInt8} (h : Two w b x y) (z : List UInt8) : Two (w.setCell ⟨b, 1, none⟩ (.string (S z))) b x z := setCell_mark _ h
theorem Two.far {w : World} {b : Nat} {x y : List UInt8} (h : Two w b x y) {p : Addr} (hn : b ≠ p.block) (v : Value) : Two (w.setCell p v) b x y := (Below.heap_setCell _ _ _ _ hn).trans h
theorem Two.but {w w' : World} {r b : Nat} {x y : List UInt8} (h : Two w b x y) (hb : But r w w') (hn : b ≠ r) : Two w' b x y := (hb.block b h.lt hn).trans h
theorem Two.below {w w' : World} {b : Nat} {x y : List UInt8} (h : Two w b x y) (hb : Below w.heap.size w w') : Two w' b x y := (hb.block b h.lt).trans h
theorem S_nil : S [] = ⟨#[]⟩ := rfl
theorem two_new (w : World) : Two (w.alloc (.cells #[.string ⟨#[]⟩, .string ⟨#[]⟩] 32)) w.heap.size [] [] := by
  unfold Two
  show (w.heap.push _)[w.heap.size]? = _
  rw [Array.getElem?_push_size]; rfl

def adrV (a : Adr) : Value := .agg #[.string (S a.1), .string (S a.2)]

set_option maxHeartbeats 4000000 in
set_option maxRecDepth 100000 in
theorem plain_any (b : Nat) (s : List UInt8) (w : World) (hR : RB w b s) (hs : s.length ≤ 1048576) :
    Calls Tryd.prog 12 #[.pointer (some ⟨b, 0, none⟩)] w (Rd b w ((plainP s).map fun x => (adrV x.1, x.2))) := by
  have hbw := hR.lt
  have hne0 : b ≠ w.heap.size := by omega
  have hne1 : b ≠ w.heap.size + 1 := by omega
  obtain ⟨W0, hW0⟩ : ∃ W0, W0 = (w.alloc (.cells #[.string ⟨#[]⟩, .string ⟨#[]⟩] 32)).alloc (.cells #[.string ⟨#[]⟩, .string ⟨#[]⟩] 32) := ⟨_, rfl⟩
  have hT0 : Two W0 w.heap.size [] [] := by rw [hW0]; exact (two_new w).below ((Below.refl _ _).alloc (Nat.le_refl _) _)
  have hT1 : Two W0 (w.heap.size + 1) [] [] := by rw [hW0]; have := two_new (w.alloc (.cells #[.string ⟨#[]⟩, .string ⟨#[]⟩] 32)); simpa using this
  have hR0 : RB W0 b s := by rw [hW0]; exact (hR.more _).more _
  have hB0 : But b w W0 := by rw [hW0]; exact ((But.refl b w).more _).more _
  have HW : Hid _ := hW0
  have HB0 : Hid (But b w W0) := hB0
  have HR0 : Hid (RB W0 b s) := hR0
  have HT0 : Hid (Two W0 w.heap.size [] []) := hT0
  have HT1 : Hid (Two W0 (w.heap.size + 1) [] []) := hT1
  have hl1 := wrun_len s
  have hlr := wrest_len s
  clear hW0 hT0 hT1 hR0 hB0 hR
  go_enter Tryd.func12, Tryd.ntmps12
  go_wp2_with fail
  rw [← HW.out]
  refine (run_any b s _ HR0.out hs).mono ?_
  rintro e w1 ⟨rfl, hR1, hB1⟩
  have hTa : Two w1 (w.heap.size + 1) [] [] := HT1.out.but hB1 hne1.symm
  have ca := hTa.c0
  have fa := hTa.free 0
  have hTb : Two (w1.setCell ⟨w.heap.size + 1, 0, none⟩ (.string (S (wrun s)))) (w.heap.size + 1) (wrun s) [] := hTa.set0 _
  have hRb : RB (w1.setCell ⟨w.heap.size + 1, 0, none⟩ (.string (S (wrun s)))) b (wrest s) := hR1.far hne1 _
  have hBb : But b w (w1.setCell ⟨w.heap.size + 1, 0, none⟩ (.string (S (wrun s)))) := (HB0.out.trans hB1).far (by simp) _
  have hTr : Two (w1.setCell ⟨w.heap.size + 1, 0, none⟩ (.string (S (wrun s)))) w.heap.size [] [] := (HT0.out.but hB1 hne0.symm).far (by simp) _
  have HTb : Hid _ := hTb
  have HRb : Hid _ := hRb
  have HBb : Hid _ := hBb
  have HTr : Hid _ := hTr
  clear hTb hRb hBb hTr hTa hR1 hB1
  go_wp2_with fail
  refine (take_any b 64 (wrest s) _ HRb.out).mono ?_
  cases ht : takeP 64 (wrest s) with
  | none =>
    have HP : Hid (plainP s = none) := by unfold Hid plainP; rw [ht]
    rintro e w2 ⟨rfl, hB2⟩
    clear ht
    go_wp2
    rw [HP.out]
    exact ⟨rfl, rfl, HBb.out.trans hB2⟩
  | some r =>
    have hrl : r.length ≤ 1048576 := by have := congrArg List.length (takeP_some ht); simp at this; omega
    have hPeq : plainP s = if checkA (wrun s) (wrun r) = 0 then some ((wrun s, wrun r), wrest r) else none := by unfold plainP; rw [ht]
    have HPE : Hid _ := hPeq
    clear hPeq ht
    rintro e w2 ⟨rfl, hR2, hB2⟩
    have hT2 := Two.but HTb.out hB2 hne1.symm
    have hTr2 := Two.but HTr.out hB2 hne0.symm
    have hBw2 := HBb.out.trans hB2
    have HT2 : Hid _ := hT2
    have HTr2 : Hid _ := hTr2
    have HBw2 : Hid _ := hBw2
    clear hT2 hTr2 hBw2 hB2 ca fa
    go_wp2_with fail
    refine (run_any b r _ hR2 hrl).mono ?_
    rintro e w3 ⟨rfl, hR3, hB3⟩
    have hT3 : Two w3 (w.heap.size + 1) (wrun s) [] := Two.but HT2.out hB3 hne1.symm
    have c3 := hT3.c1
    have c3' := hT3.c0
    have f3 := hT3.free 1
    have hT4 := hT3.set1 (wrun r)
    have hTr4 : Two (w3.setCell ⟨w.heap.size + 1, 1, none⟩ (.string (S (wrun r)))) w.heap.size [] [] := (Two.but HTr2.out hB3 hne0.symm).far (by simp) _
    have hR4 : RB (w3.setCell ⟨w.heap.size + 1, 1, none⟩ (.string (S (wrun r)))) b (wrest r) := hR3.far hne1 _
    have hB4 : But b w (w3.setCell ⟨w.heap.size + 1, 1, none⟩ (.string (S (wrun r)))) := (HBw2.out.trans hB3).far (by simp) _
    have hlx : (S (wrun s)).size ≤ 140737488355328 := by rw [size_S]; omega
    have hly : (S (wrun r)).size ≤ 140737488355328 := by rw [size_S]; have := wrun_len r; omega
    have HZ1 : Hid _ := hlx
    have HZ2 : Hid _ := hly
    have HT4 : Hid _ := hT4
    have HTr4 : Hid _ := hTr4
    have HR4 : Hid _ := hR4
    have HB4 : Hid _ := hB4
    clear hT4 hTr4 hR4 hB4 hT3 hR3 hB3 hR2 hlx hly
    go_wp2_with fail
    refine (check_any (S (wrun s)) (S (wrun r)) _ HZ1.out HZ2.out).mono ?_
    rintro e w5 ⟨rfl, hb5⟩
    rw [list_S, list_S]
    have hT5 := Two.below HT4.out hb5
    have hTr5 := Two.below HTr4.out hb5
    have hR5 := RB.below HR4.out hb5
    have hB5 := But.trans HB4.out (But.of hb5)
    by_cases h0 : checkA (wrun s) (wrun r) = 0
    · have HC : Hid _ := h0
      have HP : Hid (plainP s = some ((wrun s, wrun r), wrest r)) := by unfold Hid; rw [HPE.out, if_pos h0]
      clear h0
      rw [HC.out]
      have d0 := hT5.c0
      have d1 := hT5.c1
      have e0 := hTr5.c0
      have e1 := hTr5.c1
      have g0 := hTr5.free 0
      have g1 := hTr5.free 1
      have hT6 := (hTr5.set0 (wrun s)).set1 (wrun r)
      have hR6 := (hR5.far (p := ⟨w.heap.size, 0, none⟩) hne0 (.string (S (wrun s)))).far (p := ⟨w.heap.size, 1, none⟩) hne0 (.string (S (wrun r)))
      have hB6 := (hB5.far (p := ⟨w.heap.size, 0, none⟩) (Nat.le_refl _) (.string (S (wrun s)))).far (p := ⟨w.heap.size, 1, none⟩) (Nat.le_refl _) (.string (S (wrun r)))
      have k0 := hT6.c0
      have k1 := hT6.c1
      have HR6 : Hid _ := hR6
      have HB6 : Hid _ := hB6
      have HK : Hid _ := And.intro k0 k1
      clear hT6 hR6 hB6 hT5 hTr5 hR5 hB5 k0 k1 c3 c3' f3
      go_wp2
      refine bodyPost_ret (v := .agg #[.string (S (wrun s)), .string (S (wrun r))]) (by simp [results, Tryd.results12, go_sem, HK.out.1, HK.out.2]) rfl ?_
      rw [HP.out]
      exact ⟨rfl, HR6.out, HB6.out⟩
    · have HP : Hid (plainP s = none) := by unfold Hid; rw [HPE.out, if_neg h0]
      obtain ⟨x, hx⟩ : ∃ x, x = checkA (wrun s) (wrun r) := ⟨_, rfl⟩
      rw [← hx] at h0 ⊢
      have HX : Hid _ := hx
      have HB5 : Hid _ := hB5
      clear hx hT5 hTr5 hR5 hB5
      go_wp2
      rw [HP.out]
      exact ⟨rfl, rfl, HB5.out⟩
end Go.Proofs.YtmcpipgjckgjgabDoor
