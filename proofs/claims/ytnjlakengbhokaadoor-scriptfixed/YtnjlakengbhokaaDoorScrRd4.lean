/-
  What the reader's list does: the walk.
-/
import Derived.Test.YtnjlakengbhokaaDoorScrRd3
import Derived.Test.YtnjlakengbhokaaDoorScrCk
namespace Go.Proofs.YtnjlakengbhokaaDoor
open Go.RowKit Go.Proofs

theorem infoStr : (Tryd.prog.info? 9).map (fun i => (i.zero, i.size, i.bytes)) = some (some (.string ByteArray.empty), 1, 16) := by kernel_rfl
def cellsX (l : List (List UInt8)) : List Value := l.map fun x => .string (S x)
theorem own_txts {w : World} {B : Nat} {v : Value} {l : List (List UInt8)} (h : w.ownsRow B 9 1 v l.length (cellsX l)) (hm : l.length ≤ maxLen) : TxtsM (newB B) w v l := by
  rcases h.2 with ⟨rfl, hn⟩ | ⟨g, cap, cur, rfl, hb, hg, q⟩
  · have : l = [] := List.length_eq_zero_iff.1 hn
    subst this
    exact rowM_nil _ _ _ _ _ _
  · refine ⟨some ⟨g, 0, none⟩, cap, rfl, hm, fun i x hx => ?_⟩
    refine ⟨g, 0, [.string (S x)], rfl, (Array.getElem?_eq_some_iff.1 hg).1, hb, rfl, fun j u hj => ?_, rfl⟩
    cases j with
    | succ j => simp at hj
    | zero =>
      simp at hj
      subst hj
      have hi : i < l.length := (List.getElem?_eq_some_iff.1 hx).1
      rw [Nat.zero_add, Nat.mul_one, Nat.add_zero, World.ownsRow.cellAt h i (by omega)]
      simp [cellsX, hx]
def restS (b n : Nat) (w : World) : Nat := match w.cell? ⟨b, 1, none⟩ with | some (.int _ k) => ((n : Int) - k).toNat | _ => 0
theorem restS_is {w : World} {b : Nat} {A : Option Addr} {C : Nat} {L r : List Tok} (h : RdS w b A C L r) : restS b L.length w = r.length := by
  unfold restS
  rw [h.c1]
  have := h.len
  simp only
  omega
theorem loopF_end {A : Type} {f : List Tok → Rdg A} {m : Nat} {acc : List A} {r : List Tok} (h : skipP 5 [44] r = none) : loopF f m acc r = .ok (acc, r) := by
  cases m with
  | zero => rfl
  | succ m => unfold loopF; rw [h]
theorem loopF_go {A : Type} {f : List Tok → Rdg A} {m : Nat} {acc : List A} {r q : List Tok} (h : skipP 5 [44] r = some q) : loopF f (m + 1) acc r = thenR (f q) fun x q' => loopF f m (acc ++ [x]) q' := by
  rw [loopF, h]
theorem one_new (W : World) (x : Value) (t : TypeId) : ∀ (j : Nat) u, [x][j]? = some u → (W.alloc (.cells #[x] t)).cell? ((⟨W.heap.size, 0, none⟩ : Addr).add j) = some u := by
  intro j u hj
  rw [Addr.add_lit, Nat.zero_add]
  match j, hj with
  | 0, hj => simp at hj; subst hj; simp

set_option maxHeartbeats 8000000 in
set_option maxRecDepth 100000 in
theorem rlist_any (b : Nat) (A : Option Addr) (C : Nat) (L r : List Tok) (w : World) (h : RdS w b A C L r) :
    Calls Tryd.prog 56 #[.pointer (some ⟨b, 0, none⟩)] w (Rp b w A C L (fun l w' v => TxtsM (newB w.heap.size) w' v l) (listR r)) := by
  have H := hid h
  have hbl := h.lt
  have hsm := h.small
  obtain ⟨i0, hi, hz0, hz1, hz2⟩ := info_parts infoStr
  clear h
  go_enter Tryd.func56, Tryd.ntmps56
  go_wp2_with fail
  refine (skips_any b A C L r 5 [91] w H.out (by omega)).mono ?_
  cases hs : skipP 5 [91] r with
  | none =>
    rintro e w1 ⟨rfl, hR1, hB1⟩
    have HR1 := hid hR1
    have HB1 := hid hB1
    clear hR1 hB1
    go_wp2_with fail
    refine (rtext_any b A C L r w1 HR1.out).mono ?_
    cases hk : textR r with
    | error m =>
      have HE := hid (show listR r = .error m by unfold listR; rw [hs]; simp only; rw [hk]; rfl)
      clear hs hk
      rintro e w2 ⟨rfl, hB2⟩
      have HB2 := hid (HB1.out.trans hB2)
      clear hB2
      go_wp2
      rw [HE.out]
      exact ⟨rfl, rfl, HB2.out⟩
    | ok y =>
      obtain ⟨x, q⟩ := y
      have HE := hid (show listR r = .ok ([x], q) by unfold listR; rw [hs]; simp only; rw [hk]; rfl)
      clear hs hk
      rintro e w2 ⟨v, rfl, rfl, hR2, hB2⟩
      have HB2 := hid (HB1.out.trans hB2)
      have HR2 := hid hR2
      have hsz := HB2.out.size
      clear hR2 hB2
      have hal : Below w2.heap.size w2 (w2.alloc (.cells #[.string (S x)] 9)) := (Below.refl _ _).alloc (Nat.le_refl _) _
      have HV := hid (show TxtsM (newB w.heap.size) (w2.alloc (.cells #[.string (S x)] 9)) (.slice (some ⟨w2.heap.size, 0, none⟩) 1 1) [x] from rowM_one (cs := [.string (S x)]) (heap_alloc_new w2 _) rfl hsz rfl)
      have HAL := hid hal
      clear hal
      go_wp2
      go_ret
      rw [HE.out]
      exact ⟨_, rfl, HV.out, HR2.out.next HAL.out, HB2.out.trans (But.of HAL.out)⟩
  | some q0 =>
    rintro e w1 ⟨rfl, hR1, hB1⟩
    have HR1 := hid hR1
    have HB1 := hid hB1
    clear hR1 hB1
    go_wp2_with fail
    refine (rtext_any b A C L q0 w1 HR1.out).mono ?_
    cases hk : textR q0 with
    | error m =>
      have HE := hid (show listR r = .error m by unfold listR; rw [hs]; simp only; rw [hk]; rfl)
      clear hs hk
      rintro e w2 ⟨rfl, hB2⟩
      have HB2 := hid (HB1.out.trans hB2)
      clear hB2
      go_wp2
      rw [HE.out]
      exact ⟨rfl, rfl, HB2.out⟩
    | ok y =>
      obtain ⟨x, q1⟩ := y
      have HL := hid (show listR r = thenR (loopF textR q1.length [x] q1) fun l q2 => thenR (takeTP 5 [93] q2) fun _ q3 => .ok (l, q3) by unfold listR; rw [hs]; simp only; rw [hk]; rfl)
      clear hs hk
      rintro e w2 ⟨v, rfl, rfl, hR2, hB2⟩
      have HB2 := hid (HB1.out.trans hB2)
      have hsz := HB2.out.size
      obtain ⟨W0, hW0⟩ : ∃ W0, W0 = w2.alloc (.cells #[.string (S x)] 9) := ⟨_, rfl⟩
      have hal : Below w2.heap.size w2 W0 := by rw [hW0]; exact (Below.refl _ _).alloc (Nat.le_refl _) _
      have HO0 := hid (show W0.ownsRow w.heap.size 9 1 (.slice (some ⟨w2.heap.size, 0, none⟩) [x].length 1) [x].length (cellsX [x]) by
        rw [hW0]
        exact ⟨rfl, .inr ⟨w2.heap.size, 1, #[.string (S x)], rfl, hsz, heap_alloc_new w2 _, by simp, by unfold maxLen; omega, rfl, rfl⟩⟩)
      have HR0 := hid (hR2.next hal)
      have HB0 := hid (show But b w W0 from HB2.out.trans (But.of hal))
      have HWE := hid hW0
      clear hR2 hB2 hW0 hal
      go_wp2
      rw [← HWE.out]
      go_loopw [3] (fun v wr => ∃ (acc : List (List UInt8)) (q : List Tok) (a0 : Option Addr) (c0 m : Nat), v = .slice a0 acc.length c0 ∧ wr.ownsRow w.heap.size 9 1 (.slice a0 acc.length c0) acc.length (cellsX acc) ∧ RdS wr b A C L q ∧ q.length ≤ m ∧ acc.length + q.length ≤ 401 ∧
          Hid (listR r = thenR (loopF textR m acc q) fun l q2 => thenR (takeTP 5 [93] q2) fun _ q3 => .ok (l, q3)) ∧ But b w wr) (fun _ wr => restS b L.length wr)
      case atStart => exact ⟨[x], q1, _, _, q1.length, rfl, HO0.out, HR0.out, Nat.le_refl _, by have := HR0.out.len; simp; omega, HL, HB0.out⟩
      case round =>
        obtain ⟨acc, q, a0, c0, m, rfl, hO, hRr, hqm, hacc, hN, hBr⟩ := hrel
        have HO := hid hO
        have HRr := hid hRr
        have HBr := hid hBr
        have HM := hid (restS_is hRr)
        clear hO hRr hBr
        go_wp2_with fail
        refine (skips_any b A C L q 5 [44] wr HRr.out (by omega)).mono ?_
        cases hs : skipP 5 [44] q with
        | none =>
          have HE := hid (show listR r = thenR (takeTP 5 [93] q) fun _ q3 => .ok (acc, q3) by rw [hN.out, loopF_end hs]; rfl)
          clear hs
          rintro e w3 ⟨rfl, hR3, hB3⟩
          have HR3 := hid hR3
          have HB3 := hid (HBr.out.trans hB3)
          have HO3 := hid (own_but HO.out hB3 hbl)
          clear hR3 hB3
          go_wp2_with fail
          refine (rtake_any b A C L q 5 [93] w3 HR3.out (by omega)).mono ?_
          cases ht : takeTP 5 [93] q with
          | error mm =>
            have HF := hid (show listR r = .error mm by rw [HE.out, ht]; rfl)
            clear ht
            rintro e w4 ⟨rfl, hB4⟩
            have HB4 := hid (HB3.out.trans hB4)
            clear hB4
            go_wp2
            rw [HF.out]
            exact ⟨rfl, rfl, HB4.out⟩
          | ok y =>
            obtain ⟨u, q3⟩ := y
            have HF := hid (show listR r = .ok (acc, q3) by rw [HE.out, ht]; rfl)
            clear ht
            rintro e w4 ⟨v, rfl, rfl, hR4, hB4⟩
            have HR4 := hid hR4
            have HB4 := hid (HB3.out.trans hB4)
            have HV := hid (own_txts (own_but HO3.out hB4 hbl) (by unfold maxLen; omega))
            clear hR4 hB4
            go_wp2
            go_ret
            rw [HF.out]
            exact ⟨_, rfl, HV.out, HR4.out, HB4.out⟩
        | some q' =>
          have hql := skipP_len hs
          obtain ⟨m', rfl⟩ : ∃ m', m = m' + 1 := ⟨m - 1, by omega⟩
          have HE := hid (show listR r = thenR (thenR (textR q') fun x q2 => loopF textR m' (acc ++ [x]) q2) fun l q2 => thenR (takeTP 5 [93] q2) fun _ q3 => .ok (l, q3) by rw [hN.out, loopF_go hs])
          clear hs
          rintro e w3 ⟨rfl, hR3, hB3⟩
          have HR3 := hid hR3
          have HB3 := hid (HBr.out.trans hB3)
          have HO3 := hid (own_but HO.out hB3 hbl)
          clear hR3 hB3
          go_wp2_with fail
          refine (rtext_any b A C L q' w3 HR3.out).mono ?_
          cases ht : textR q' with
          | error mm =>
            have HF := hid (show listR r = .error mm by rw [HE.out, ht]; rfl)
            clear ht
            rintro e w4 ⟨rfl, hB4⟩
            have HB4 := hid (HB3.out.trans hB4)
            clear hB4
            go_wp2
            rw [HF.out]
            exact ⟨rfl, rfl, HB4.out⟩
          | ok y =>
            obtain ⟨x2, q2⟩ := y
            have hq2 := textR_len ht
            have HF := hid (show listR r = thenR (loopF textR m' (acc ++ [x2]) q2) fun l q2 => thenR (takeTP 5 [93] q2) fun _ q3 => .ok (l, q3) by rw [HE.out, ht]; rfl)
            clear ht
            rintro e w4 ⟨v, rfl, rfl, hR4, hB4⟩
            have HR4 := hid hR4
            have HB4 := hid (HB3.out.trans hB4)
            have hO4 : w4.ownsRow w.heap.size 9 1 (.slice a0 acc.length c0) acc.length (cellsX acc) := own_but HO3.out hB4 hbl
            have hsz4 := HB4.out.size
            clear hR4 hB4
            go_wp2_with (at_builtin; refine wpList_append_own _ rfl _ _ 22 rfl w.heap.size 9 i0 _ 1 16 Tryd.underlying22 hi hz0 hz1 hz2 rfl (by decide) (.slice a0 acc.length c0) acc.length (cellsX acc) rfl (World.ownsRow.alloc hO4 _) ⟨w4.heap.size, 0, none⟩ 1 1 [.string (S x2)] rfl rfl (one_new _ _ _) ?c2 ?c3 ?c4 ?c5 ?_)
            case c2 => intro u hu; simp at hu; subst hu; rfl
            case c3 => unfold maxLen; omega
            case c4 => omega
            case c5 => simp; omega
            intro v' w5 hown' hgrow _
            have hBb : Below w.heap.size w4 w5 := ((Below.refl _ _).alloc hsz4 _).grown hgrow (by simp; omega) (fun j hj => (World.ownsRow.lt hO4 j hj).1)
            have HR5 := hid (HR4.out.under hBb hbl)
            have HB5 := hid (HB4.out.low hBb)
            have HO5 := hid (show w5.ownsRow w.heap.size 9 1 v' (acc ++ [x2]).length (cellsX (acc ++ [x2])) by
              have := hown'
              rw [List.length_append]
              unfold cellsX at this ⊢
              rw [List.map_append]
              exact this)
            obtain ⟨a5, c5, hv5⟩ : ∃ a c, v' = .slice a (acc ++ [x2]).length c := by
              rcases HO5.out.2 with ⟨rfl, hn⟩ | ⟨g, cap, cur, rfl, _⟩
              · exact ⟨none, 0, by rw [hn]⟩
              · exact ⟨_, _, rfl⟩
            subst hv5
            have HD := hid (show restS b L.length w5 < restS b L.length wr by rw [restS_is HR5.out, HM.out]; omega)
            clear hown' hgrow hBb hO4
            go_wp2
            exact ⟨⟨acc ++ [x2], q2, a5, c5, m', by first | rfl | simp, HO5.out, HR5.out, by omega, by simp; omega, HF, HB5.out⟩, HD.out⟩
end Go.Proofs.YtnjlakengbhokaaDoor
