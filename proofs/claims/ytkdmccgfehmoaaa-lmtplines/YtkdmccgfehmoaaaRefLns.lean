/-
  The reference's behind, knownLocal and angled (P12.2, P12.3): the walks.
-/
import Derived.Test.YtkdmccgfehmoaaaRefLowS
import Derived.Test.YtkdmccgfehmoaaaLmAdr
import Derived.Deep.DeepCutAuto
namespace Go.Proofs.Ytkdmccgfehmoaaa
open Go.RowKit Go.Proofs

/-- What the reference's behind hands back. -/
def BrP (w : World) (o : Option (List UInt8)) (e : Ending) (w' : World) : Prop :=
  match o with
  | some r => e = .returned (.tuple #[.bool true, .string (S r)]) ∧ Below w.heap.size w w'
  | none => e = .returned (.tuple #[.bool false, .string ⟨#[]⟩]) ∧ Below w.heap.size w w'
set_option maxHeartbeats 1000000 in
set_option maxRecDepth 100000 in
theorem behindR_raw (l a : ByteArray) (w : World) (ha : a.size ≤ 100) (hl : a.size ≤ l.size) (q : Bool) (hq : q = ((low (l.extract 0 a.size)).toList == (low a).toList)) :
    Calls Try.prog 34 #[.string l, .string a] w fun e w' => e = .returned (if q = true then .tuple #[.bool true, .string (l.extract a.size l.size)] else .tuple #[.bool false, .string ⟨#[]⟩]) ∧ Below w.heap.size w w' := by
  have h1 : ¬ (l.size : Int) < (a.size : Int) := by omega
  have h2 : (a.size : Int) ≤ (l.size : Int) := by omega
  have hz : (l.extract 0 a.size).size ≤ 2000 := by rw [ByteArray.size_extract]; omega
  have HL1 := hid (lower_any (l.extract 0 a.size) w (by omega))
  have HL2 := hid (fun u => lower_any a u (by omega))
  obtain ⟨x, hx⟩ : ∃ x, x = low (l.extract 0 a.size) := ⟨_, rfl⟩
  obtain ⟨y, hy⟩ : ∃ y, y = low a := ⟨_, rfl⟩
  rw [← hx] at HL1 hq
  rw [← hy] at HL2 hq
  have e1 : (x.toList == y.toList) = q := hq.symm
  clear hx hy hz hq
  go_enter Try.func34, Try.ntmps34
  go_wp2_with fail
  refine HL1.out.mono ?_
  rintro e u ⟨rfl, hb⟩
  go_wp2_with fail
  refine (HL2.out u).mono ?_
  rintro e u2 ⟨rfl, hb2⟩
  have HB := hid (hb.trans (hb2.mono hb.size))
  clear hb hb2
  cases q with
  | false =>
    have e2 : ¬ x.toList = y.toList := fun e => by rw [e] at e1; simp at e1
    go_wp2
    go_ret2
    exact ⟨rfl, HB.out⟩
  | true =>
    have e2 : x.toList = y.toList := by simpa using e1
    go_wp2_with fail
    go_region_held3 (fun _ => True) (trivial) (fail)
    all_goals
      go_wp2
      go_ret2
      exact ⟨rfl, HB.out.drew⟩
set_option maxHeartbeats 1000000 in
theorem behindR_short (l a : ByteArray) (w : World) (hl : l.size < a.size) :
    Calls Try.prog 34 #[.string l, .string a] w fun e w' => e = .returned (.tuple #[.bool false, .string ⟨#[]⟩]) ∧ Below w.heap.size w w' := by
  have h1 : (l.size : Int) < (a.size : Int) := by omega
  go_enter Try.func34, Try.ntmps34
  go_wp2
  go_ret2
  exact ⟨rfl, Below.refl _ _⟩
theorem behindR_any (line wd : List UInt8) (w : World) (hw : wd.length ≤ 100) :
    Calls Try.prog 34 #[.string (S line), .string (S wd)] w (BrP w (behindM (lowL wd) line)) := by
  have hle : (lowL wd).length = wd.length := by simp [lowL]
  by_cases h : line.length < wd.length
  · refine (behindR_short (S line) (S wd) w (by rw [size_S, size_S]; exact h)).mono ?_
    rintro e u ⟨rfl, hb⟩
    have : behindM (lowL wd) line = none := by
      unfold behindM
      rw [if_neg]
      intro e
      have e2 := congrArg List.length e
      rw [hle, lowL, List.length_map, List.length_take] at e2
      omega
    rw [this]
    exact ⟨rfl, hb⟩
  · refine (behindR_raw (S line) (S wd) w (by rw [size_S]; exact hw) (by rw [size_S, size_S]; omega) _ rfl).mono ?_
    rintro e u ⟨rfl, hb⟩
    have hq : ((low ((S line).extract 0 (S wd).size)).toList == (low (S wd)).toList) = decide (lowL (line.take wd.length) = lowL wd) := by
      rw [size_S, S_take, Lib.toList_data, Lib.toList_data, low_list, low_list, list_S, list_S]
      by_cases e : lowL (line.take wd.length) = lowL wd
      · rw [e]; simp
      · simp [e]
    rw [hq, S_drop, size_S]
    unfold behindM
    rw [hle]
    by_cases e : lowL (line.take wd.length) = lowL wd
    · rw [if_pos e]
      exact ⟨by simp [e], hb⟩
    · rw [if_neg e]
      exact ⟨by simp [e], hb⟩
set_option maxHeartbeats 1000000 in
set_option maxRecDepth 100000 in
theorem knownR_any (Q : Nat → Prop) (l : List (List UInt8)) (x : List UInt8) (a : Option Addr) (c : Nat) (w : World) (h : TxtsM Q w (.slice a l.length c) l) :
    Calls Try.prog 36 #[.slice a l.length c, .string (S x)] w fun e w' => e = .returned (.bool (l.contains x)) ∧ w' = w := by
  have hm : l.length ≤ maxLen := by obtain ⟨_, _, _, hm, _⟩ := h; exact hm
  unfold maxLen at hm
  have HL := hid h
  clear h
  obtain ⟨q, hq⟩ : ∃ q, q = l.contains x := ⟨_, rfl⟩
  have HN := hid (show q = (l.drop 0).any fun z => decide (x = z) by rw [hq, List.drop_zero]; exact (con_any l x).symm)
  rw [← hq]
  clear hq
  go_enter Try.func36, Try.ntmps36
  go_wp2
  go_loopw [5] (fun v wr => ∃ i : Nat, i ≤ l.length ∧ v = .int .i64 i ∧ wr = w ∧ Hid (q = (l.drop i).any fun z => decide (x = z))) (fun v _ => l.length - (intOf v).toNat)
  case atStart => exact ⟨0, Nat.zero_le _, rfl, rfl, HN⟩
  case round =>
    obtain ⟨i, hi, rfl, rfl, HI⟩ := hrel
    by_cases hlt : i < l.length
    · have i1 : (i : Int) < (l.length : Int) := by omega
      have i0 : (0 : Int) ≤ (i : Int) := by omega
      obtain ⟨y, hy⟩ : ∃ y, l[i]? = some y := ⟨_, List.getElem?_eq_getElem hlt⟩
      have HS := hid (con_step (x := x) hy)
      obtain ⟨b, o, rfl, _, _, e0⟩ := txt_get HL.out hy
      have eq1 := lm_beq y x
      clear hy
      by_cases hp : x = y
      · have HE := hid (show q = true by rw [HI.out, HS.out]; simp [hp])
        have ed : decide (y = x) = true := by simp [hp]
        rw [ed] at eq1
        clear hp ed
        go_wp2
        go_ret
        exact ⟨by rw [HE.out]; rfl, rfl⟩
      · have HE := hid (show q = (l.drop (i + 1)).any fun z => decide (x = z) by rw [HI.out, HS.out]; simp [hp])
        have ed : decide (y = x) = false := by simp; exact fun e => hp e.symm
        rw [ed] at eq1
        clear hp ed
        go_wp2
        go_roundw
        case rel => first | exact ⟨i + 1, by omega, by go_num, by first | rfl | trivial, HE⟩ | ((repeat apply Exists.intro); exact ⟨⟨i + 1, by omega, by go_num, by first | rfl | trivial, HE⟩, rfl⟩) | (refine ⟨trivial, ?_⟩; (repeat apply Exists.intro); exact ⟨⟨i + 1, by omega, by go_num, by first | rfl | trivial, HE⟩, rfl⟩)
        case measure => simp [intOf]; omega
    · have i1 : ¬ (i : Int) < (l.length : Int) := by omega
      have HE := hid (show q = false by rw [HI.out, List.drop_eq_nil_of_le (by omega)]; rfl)
      go_wp2
      go_ret
      exact ⟨by rw [HE.out]; rfl, rfl⟩
/-- What the reference's angled hands back. -/
def AnP (w : World) (o : Option Adr) (e : Ending) (w' : World) : Prop :=
  match o with
  | some a => e = .returned (.tuple #[.agg #[.string (S a.1), .string (S a.2)], .bool true]) ∧ Below w.heap.size w w'
  | none => (∃ x y, e = .returned (.tuple #[.agg #[.string x, .string y], .bool false])) ∧ Below w.heap.size w w'
theorem an_none {t : List UInt8} (h : angleM t = false ∨ (Lib.cut (innerM t) [64]).2.2 = false) : addrM t = none := by
  unfold addrM
  rw [if_neg]
  intro e
  simp only [Bool.and_eq_true] at e
  rcases h with h | h
  · rw [h] at e; exact absurd e.1.1 (by simp)
  · rw [h] at e; exact absurd e.1.2 (by simp)
theorem an_some {t l d : List UInt8} (h : angleM t = true) (hc : Lib.cut (innerM t) [64] = (l, d, true)) : addrM t = if checkA l d = 0 then some (l, d) else none := by
  unfold addrM
  rw [h, hc]
  simp [adrOk]
theorem head_get (s : ByteArray) (h : 0 < s.size) : s.data.toList.head? = some s[0] := by
  rw [List.head?_eq_getElem?, List.getElem?_eq_getElem (by rw [size_list]; exact h)]
  rfl
theorem last_get (s : ByteArray) (h : s.size - 1 < s.size) : s.data.toList.getLast? = some s[s.size - 1] := by
  rw [List.getLast?_eq_getElem?, size_list]
  rw [List.getElem?_eq_getElem (by rw [size_list]; exact h)]
  simp
  rfl
theorem u8_60 {c : UInt8} (h : (c.toNat : Int) = 60) : c = 60 := UInt8.toNat_inj.1 (show c.toNat = 60 by omega)
theorem u8_62 {c : UInt8} (h : (c.toNat : Int) = 62) : c = 62 := UInt8.toNat_inj.1 (show c.toNat = 62 by omega)
theorem u8_64 {c : UInt8} (h : (c.toNat : Int) = 64) : c = 64 := UInt8.toNat_inj.1 (show c.toNat = 64 by omega)
theorem two_put {W : World} {p : Nat} {u0 u1 v0 v1 : Value} {t : TypeId} (h : W.heap[p]? = some (.cells #[u0, u1] t)) : ((W.setCell ⟨p, 0, none⟩ v0).setCell ⟨p, 1, none⟩ v1).heap[p]? = some (.cells #[v0, v1] t) := by
  have := lm_put (j := 1) (u := v1) (lm_put (j := 0) (u := v0) h)
  simp only [List.setIfInBounds_toArray, List.set_cons_succ, List.set_cons_zero] at this
  exact this
theorem inner_ext (s : ByteArray) : (s.extract 1 (s.size - 1)).data.toList = innerM s.data.toList := by
  unfold innerM
  rw [List.dropLast_eq_take]
  simp
set_option maxHeartbeats 1000000 in
set_option maxRecDepth 100000 in
theorem angledR_any (s : ByteArray) (w : World) (hs : s.size ≤ 2000) :
    Calls Try.prog 35 #[.string s] w (AnP w (addrM s.data.toList)) := by
  have HB0 := hid (show Below w.heap.size w (w.alloc (.cells #[.string ⟨#[]⟩, .string ⟨#[]⟩] 23)) from (Below.refl _ _).alloc (Nat.le_refl _) _)
  by_cases h2 : s.size < 2
  · have HE := hid (an_none (t := s.data.toList) (.inl (by unfold angleM; rw [size_list, show decide (2 ≤ s.size) = false by simp; omega]; rfl)))
    have k1 : (s.size : Int) < 2 := by omega
    go_enter Try.func35, Try.ntmps35
    go_wp2
    refine bodyPost_ret (v := .tuple #[.agg #[.string ⟨#[]⟩, .string ⟨#[]⟩], .bool false]) (by simp [results, Try.results35, go_sem, *]) rfl ?_
    rw [HE.out]
    exact ⟨⟨_, _, rfl⟩, HB0.out⟩
  have k1 : ¬ (s.size : Int) < 2 := by omega
  have k0 : 0 < s.size := by omega
  have kl : s.size - 1 < s.size := by omega
  have k2 : (0 : Int) ≤ (s.size : Int) - 1 := by omega
  have k3 : (s.size : Int) - 1 < (s.size : Int) := by omega
  have e1 : ((s.size : Int) - 1).toNat = s.size - 1 := by omega
  have HHD := hid (head_get s k0)
  have HLS := hid (last_get s kl)
  by_cases a0 : ((s[0]).toNat : Int) = 60
  case neg =>
    have HE := hid (an_none (t := s.data.toList) (.inl (by
      unfold angleM
      rw [HHD.out]
      have : ((some s[0] : Option UInt8) == some 60) = false := by
        simp
        intro e; rw [e] at a0; exact a0 rfl
      rw [this]; simp)))
    go_enter Try.func35, Try.ntmps35
    go_wp2
    refine bodyPost_ret (v := .tuple #[.agg #[.string ⟨#[]⟩, .string ⟨#[]⟩], .bool false]) (by simp [results, Try.results35, go_sem, *]) rfl ?_
    rw [HE.out]
    exact ⟨⟨_, _, rfl⟩, HB0.out⟩
  by_cases b0 : ((s[s.size - 1]).toNat : Int) = 62
  case neg =>
    have HE := hid (an_none (t := s.data.toList) (.inl (by
      unfold angleM
      rw [HLS.out]
      have : ((some s[s.size - 1] : Option UInt8) == some 62) = false := by
        simp
        intro e; rw [e] at b0; exact b0 rfl
      rw [this]; simp)))
    have b1 : (((s[s.size - 1]).toNat : Int) != 62) = true := by simp [b0]
    clear b0
    go_enter Try.func35, Try.ntmps35
    go_wp2
    refine bodyPost_ret (v := .tuple #[.agg #[.string ⟨#[]⟩, .string ⟨#[]⟩], .bool false]) (by simp [results, Try.results35, go_sem, *]) rfl ?_
    rw [HE.out]
    exact ⟨⟨_, _, rfl⟩, HB0.out⟩
  have HAG := hid (show angleM s.data.toList = true by
    unfold angleM
    rw [HHD.out, HLS.out, u8_60 a0, u8_62 b0, size_list]
    simp; omega)
  have b1 : (((s[s.size - 1]).toNat : Int) != 62) = false := by simp [b0]
  obtain ⟨u, hu⟩ : ∃ u, u = s.extract 1 (s.size - 1) := ⟨_, rfl⟩
  have HUI := hid (show u.data.toList = innerM s.data.toList by rw [hu]; exact inner_ext s)
  have HUE := hid hu
  have husz : u.size ≤ 2000 := by rw [hu, ByteArray.size_extract]; omega
  have k4 : (1 : Int) ≤ (s.size : Int) - 1 := by omega
  have k5 : (s.size : Int) - 1 ≤ (s.size : Int) := by omega
  clear hu b0
  obtain ⟨W0, hW0⟩ : ∃ W0, W0 = w.alloc (.cells #[.string ⟨#[]⟩, .string ⟨#[]⟩] 23) := ⟨_, rfl⟩
  have HWE := hid hW0
  have HX0 := hid (show W0.heap[w.heap.size]? = some (.cells #[.string ⟨#[]⟩, .string ⟨#[]⟩] 23) by rw [hW0]; exact heap_alloc_new w _)
  rw [← hW0] at HB0
  have hz0 : W0.heap.size = w.heap.size + 1 := by rw [hW0]; simp
  have HZ0 := hid hz0
  clear hW0 hz0
  go_enter Try.func35, Try.ntmps35
  go_upto_region 4 with fail
  rw [← HWE.out, ← HUE.out]
  go_wp2
  go_loopw [5] (fun v wr => ∃ i : Nat, i ≤ u.size ∧ v = .int .i64 i ∧ wr = W0 ∧ Hid ((64 : UInt8) ∉ u.data.toList.take i)) (fun v _ => u.size - (intOf v).toNat)
  case atStart => exact ⟨0, Nat.zero_le _, rfl, rfl, hid (by simp)⟩
  case round =>
    obtain ⟨i, hi, rfl, rfl, HN⟩ := hrel
    by_cases hlt : i < u.size
    · have i1 : (i : Int) < (u.size : Int) := by omega
      have i0 : (0 : Int) ≤ (i : Int) := by omega
      have HTK := hid (take_snoc u i hlt)
      by_cases h64 : ((u[i]).toNat : Int) = 64
      · have i2 : (i : Int) ≤ (u.size : Int) := by omega
        have i3 : (i : Int) + 1 ≤ (u.size : Int) := by omega
        have i4 : (0 : Int) ≤ (i : Int) + 1 := by omega
        have i5 : IntKind.i64.wrap ((i : Int) + 1) = (i : Int) + 1 := by simp [IntKind.wrap, IntKind.signed, IntKind.bits]; omega
        have i6 : ((i : Int) + 1).toNat = i + 1 := by omega
        obtain ⟨l, hl⟩ : ∃ l, l = u.extract 0 i := ⟨_, rfl⟩
        obtain ⟨d, hd⟩ : ∃ d, d = u.extract (i + 1) u.size := ⟨_, rfl⟩
        have HCT := hid (show Lib.cut (innerM s.data.toList) [64] = (l.data.toList, d.data.toList, true) by
          have e : innerM s.data.toList = u.data.toList.take i ++ 64 :: u.data.toList.drop (i + 1) := by
            rw [← HUI.out]
            have h1 := HTK.out
            rw [u8_64 h64] at h1
            conv => lhs; rw [← List.take_append_drop (i + 1) u.data.toList, h1]
            simp
          rw [e, cut_colon HN.out, hl, hd]
          simp
          rw [List.take_of_length_le (by simp)])
        have HAF := hid (fun v => addressFault_any l d v (by rw [hl, ByteArray.size_extract]; omega) (by rw [hd, ByteArray.size_extract]; omega))
        have HLE := hid hl
        have HDE := hid hd
        clear hl hd
        go_wp2_with fail
        go_cut [6] (fun p wx => ∃ P, p = .pointer (some ⟨P, 0, none⟩) ∧ wr.heap.size ≤ P ∧ wx.heap[P]? = some (.cells #[.string l, .string d] 23) ∧ Below wr.heap.size wr wx)
        case first =>
          go_region_held3 (fun _ => True) (trivial) (fail)
          all_goals
            go_wp2_with fail
            go_meet
            rw [HLE.out, HDE.out]
            exact ⟨wr.heap.size, rfl, Nat.le_refl _, heap_alloc_new _ _, ((Below.refl _ _).alloc (Nat.le_refl _) _).drew⟩
        case rest =>
          obtain ⟨P, rfl, hP, hX, hb⟩ := hcut
          have hz := HZ0.out
          have hR := lm_next hb HX0.out
          obtain ⟨x0, x1⟩ := adr_box hX
          obtain ⟨r0, r1⟩ := adr_box hR
          have f0 := lm_frz hR 0
          have f1 := lm_frz hR 1
          have HCK := hid (HAF.out wc.drew)
          have hne1 : P ≠ w.heap.size := by omega
          have hne2 : w.heap.size ≠ P := by omega
          have HBC := hid (show Below w.heap.size w wc from HB0.out.trans (hb.mono HB0.out.size))
          have HRR := hid hR
          obtain ⟨z, hzz⟩ : ∃ z, z = checkA l.data.toList d.data.toList := ⟨_, rfl⟩
          rw [← hzz] at HCK
          have HAN := hid (an_some HAG.out HCT.out)
          rw [← hzz] at HAN
          clear hX hR hb hP hz hzz
          go_wp2_with fail
          go_region_held3 (fun v => v.cell? ⟨P, 0, none⟩ = some (.string l) ∧ v.cell? ⟨P, 1, none⟩ = some (.string d)) (first | (go_keep; done) | exact ⟨y0, y1⟩ | fail)
            (first
              | (go_at_call 15
                 with_reducible refine HCK.out.mono ?_
                 rintro e w6 ⟨rfl, hb6'⟩
                 have hb6 := (Below.refl wc.heap.size wc).drew.trans hb6'
                 have y0 := wcell_next x0 hb6
                 have y1 := wcell_next x1 hb6
                 have HR6 := hid (lm_next hb6 HRR.out)
                 have HB6 := hid (show Below w.heap.size w w6 from HBC.out.trans (hb6.mono HBC.out.size))
                 have q0 := lm_frz HR6.out 0
                 have q1 := lm_frz HR6.out 1
                 have q2 := (adr_box HR6.out).1
                 have q3 := (adr_box HR6.out).2
                 clear hb6 hb6')
              | fail)
          all_goals
            by_cases hz : z = 0
            · rw [if_pos hz] at HAN
              have z1 : (z == 0) = true := by simp [hz]
              clear hz
              go_wp2
              obtain ⟨m0, m1⟩ := adr_box (two_put (v0 := .string l) (v1 := .string d) HR6.out)
              clear q0 q1 q2 q3
              refine bodyPost_ret (v := .tuple #[.agg #[.string l, .string d], .bool true]) (by simp [results, Try.results35, go_sem, *]) rfl ?_
              rw [HAN.out]
              exact ⟨by rw [S_list, S_list], (HB6.out.setCell (p := ⟨w.heap.size, 0, none⟩) (Nat.le_refl _) _).setCell (p := ⟨w.heap.size, 1, none⟩) (Nat.le_refl _) _⟩
            · rw [if_neg hz] at HAN
              have z1 : (z == 0) = false := by simp [hz]
              clear hz
              go_wp2
              obtain ⟨m0, m1⟩ := adr_box (two_put (v0 := .string l) (v1 := .string d) HR6.out)
              clear q0 q1 q2 q3
              refine bodyPost_ret (v := .tuple #[.agg #[.string l, .string d], .bool false]) (by simp [results, Try.results35, go_sem, *]) rfl ?_
              rw [HAN.out]
              exact ⟨⟨_, _, rfl⟩, (HB6.out.setCell (p := ⟨w.heap.size, 0, none⟩) (Nat.le_refl _) _).setCell (p := ⟨w.heap.size, 1, none⟩) (Nat.le_refl _) _⟩
      · have d0 : (((u[i]).toNat : Int) == 64) = false := by simp [h64]
        have HNX := hid (show (64 : UInt8) ∉ u.data.toList.take (i + 1) by
          rw [HTK.out]
          intro h
          rcases List.mem_append.1 h with h | h
          · exact HN.out h
          · rw [List.mem_singleton] at h
            rw [← h] at h64
            exact h64 rfl)
        go_wp2
        go_roundw
        case rel => first | exact ⟨i + 1, by omega, by go_num, by first | rfl | trivial, HNX⟩ | ((repeat apply Exists.intro); exact ⟨⟨i + 1, by omega, by go_num, by first | rfl | trivial, HNX⟩, rfl⟩) | (refine ⟨trivial, ?_⟩; (repeat apply Exists.intro); exact ⟨⟨i + 1, by omega, by go_num, by first | rfl | trivial, HNX⟩, rfl⟩)
        case measure => simp [intOf]; omega
    · have i1 : ¬ (i : Int) < (u.size : Int) := by omega
      have HE := hid (an_none (t := s.data.toList) (.inr (by
        rw [← HUI.out, cut_nocolon (by have h := HN.out; rwa [List.take_of_length_le (by rw [size_list]; omega)] at h)])))
      obtain ⟨r0, r1⟩ := adr_box HX0.out
      have f0 := lm_frz HX0.out 0
      have f1 := lm_frz HX0.out 1
      go_wp2
      obtain ⟨m0, m1⟩ := adr_box (two_put (v0 := .string ⟨#[]⟩) (v1 := .string ⟨#[]⟩) HX0.out)
      clear r0 r1 f0 f1
      refine bodyPost_ret (v := .tuple #[.agg #[.string ⟨#[]⟩, .string ⟨#[]⟩], .bool false]) (by simp [results, Try.results35, go_sem, *]) rfl ?_
      rw [HE.out]
      exact ⟨⟨_, _, rfl⟩, (HB0.out.setCell (p := ⟨w.heap.size, 0, none⟩) (Nat.le_refl _) _).setCell (p := ⟨w.heap.size, 1, none⟩) (Nat.le_refl _) _⟩
end Go.Proofs.Ytkdmccgfehmoaaa
