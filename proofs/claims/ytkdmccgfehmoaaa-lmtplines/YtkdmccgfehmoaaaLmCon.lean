/-
  What slices.Contains and Clone do at rows of addresses and texts: the walks.
-/
import Derived.Test.YtkdmccgfehmoaaaLmMem
import Derived.Deep.RegionHeld3
import Derived.Deep.RegionLaw
import Derived.Deep.QuietTactic
import Derived.BigQuiet
import Derived.Shelf.Abstract
namespace Go.Proofs.Ytkdmccgfehmoaaa
open Go.RowKit Go.Proofs

theorem con_step {A : Type} [DecidableEq A] {l : List A} {i : Nat} {x y : A} (h : l[i]? = some y) : (l.drop i).any (fun z => decide (x = z)) = (decide (x = y) || (l.drop (i + 1)).any (fun z => decide (x = z))) := by
  have hi : i < l.length := (List.getElem?_eq_some_iff.1 h).1
  have e : l[i] = y := (List.getElem?_eq_some_iff.1 h).2
  rw [List.drop_eq_getElem_cons hi, e]; rfl
theorem con_any {A : Type} [BEq A] [LawfulBEq A] [DecidableEq A] (l : List A) (x : A) : l.any (fun z => decide (x = z)) = l.contains x := by
  induction l with
  | nil => rfl
  | cons y l ih =>
    rw [List.any_cons, ih, List.contains_cons]
    by_cases h : x = y
    · subst h; simp
    · simp [h]
/-- What Index hands back: a place just where there is one. -/
def IxP (w : World) (q : Bool) (e : Ending) (w' : World) : Prop := ∃ z : Int, e = .returned (.int .i64 z) ∧ decide (0 ≤ z) = q ∧ Below w.heap.size w w'
set_option maxHeartbeats 2000000 in
set_option maxRecDepth 100000 in
theorem indexA_any (Q : Nat → Prop) (l : List Adr) (x : Adr) (a : Option Addr) (c : Nat) (w : World) (h : AdrsM Q w (.slice a l.length c) l) :
    Calls Try.prog 50 #[.slice a l.length c, .agg #[.string (S x.1), .string (S x.2)]] w (IxP w (l.any fun z => decide (x = z))) := by
  have hm : l.length ≤ maxLen := by obtain ⟨_, _, _, hm, _⟩ := h; exact hm
  unfold maxLen at hm
  obtain ⟨W1, hW1⟩ : ∃ W1, W1 = w.alloc (.cells #[.string (S x.1), .string (S x.2)] 23) := ⟨_, rfl⟩
  have HWE := hid hW1
  have HB1 := hid (show Below w.heap.size w W1 by rw [hW1]; exact (Below.refl _ _).alloc (Nat.le_refl _) _)
  have c0 : W1.cell? ⟨w.heap.size, 0, none⟩ = some (.string (S x.1)) := by rw [hW1]; simp
  have c1 : W1.cell? ⟨w.heap.size, 1, none⟩ = some (.string (S x.2)) := by rw [hW1]; simp
  have HL := hid (h.next HB1.out)
  clear hW1 h
  have HN : Hid ((l.any fun z => decide (x = z)) = (l.drop 0).any fun z => decide (x = z)) := rfl
  obtain ⟨q, hq⟩ : ∃ q, q = l.any fun z => decide (x = z) := ⟨_, rfl⟩
  rw [← hq] at HN ⊢
  clear hq
  have HEQ := hid (adr_eql x)
  go_enter Try.func50, Try.ntmps50
  go_wp2_with fail
  rw [← HWE.out]
  go_wp2
  go_loopw [8] (fun v wr => ∃ i : Nat, i ≤ l.length ∧ v = .int .i64 i ∧ Hid (wr.heap = W1.heap) ∧ Hid (Below w.heap.size w wr) ∧ Hid (q = (l.drop i).any fun z => decide (x = z))) (fun v _ => l.length - (intOf v).toNat)
  case atStart => exact ⟨0, Nat.zero_le _, rfl, rfl, HB1, HN⟩
  case round =>
    obtain ⟨i, hi, rfl, HW, HB, HI⟩ := hrel
    have d0 := lm_same c0 HW.out
    have d1 := lm_same c1 HW.out
    have HLR := hid (HL.out.same HW.out)
    by_cases hlt : i < l.length
    · have i1 : (i : Int) < (l.length : Int) := by omega
      have i0 : (0 : Int) ≤ (i : Int) := by omega
      obtain ⟨y, hy⟩ : ∃ y, l[i]? = some y := ⟨_, List.getElem?_eq_getElem hlt⟩
      have HS := hid (con_step (x := x) hy)
      obtain ⟨b, o, rfl, _, _, e0, e1⟩ := adr_get HLR.out hy
      have eq1 : ∀ w : World, (binOp .eql 23 (.agg #[.string (S x.1), .string (S x.2)]) (.agg #[.string (S y.1), .string (S y.2)])).run Try.prog w = .ok (.bool (decide (x = y))) w := HEQ.out y
      clear hy
      by_cases hp : x = y
      · have HE := hid (show q = true by rw [HI.out, HS.out]; simp [hp])
        have ed : decide (x = y) = true := by simp [hp]
        rw [ed] at eq1
        clear hp ed
        go_wp2
        go_quiet (fail)
        go_wp2
        go_ret
        exact ⟨_, rfl, by rw [HE.out]; simp, wdrew HB.out _⟩
      · have HE := hid (show q = (l.drop (i + 1)).any fun z => decide (x = z) by rw [HI.out, HS.out]; simp [hp])
        have ed : decide (x = y) = false := by simp [hp]
        rw [ed] at eq1
        clear hp ed
        go_wp2
        go_quiet (fail)
        go_wp2
        go_roundw
        case rel => first | exact ⟨i + 1, by omega, by go_num, HW, wdrew HB.out _, HE⟩ | ((repeat apply Exists.intro); exact ⟨⟨i + 1, by omega, by go_num, HW, wdrew HB.out _, HE⟩, rfl⟩) | (refine ⟨trivial, ?_⟩; (repeat apply Exists.intro); exact ⟨⟨i + 1, by omega, by go_num, HW, wdrew HB.out _, HE⟩, rfl⟩)
        case measure => simp [intOf]; omega
    · have i1 : ¬ (i : Int) < (l.length : Int) := by omega
      have HE := hid (show q = false by rw [HI.out, List.drop_eq_nil_of_le (by omega)]; rfl)
      go_wp2
      go_ret
      exact ⟨_, rfl, by rw [HE.out]; rfl, HB.out⟩
set_option maxHeartbeats 2000000 in
set_option maxRecDepth 100000 in
theorem indexT_any (Q : Nat → Prop) (l : List (List UInt8)) (x : List UInt8) (a : Option Addr) (c : Nat) (w : World) (h : TxtsM Q w (.slice a l.length c) l) :
    Calls Try.prog 58 #[.slice a l.length c, .string (S x)] w (IxP w (l.any fun z => decide (x = z))) := by
  have hm : l.length ≤ maxLen := by obtain ⟨_, _, _, hm, _⟩ := h; exact hm
  unfold maxLen at hm
  have HL := hid h
  clear h
  have HN : Hid ((l.any fun z => decide (x = z)) = (l.drop 0).any fun z => decide (x = z)) := rfl
  obtain ⟨q, hq⟩ : ∃ q, q = l.any fun z => decide (x = z) := ⟨_, rfl⟩
  rw [← hq] at HN ⊢
  clear hq
  go_enter Try.func58, Try.ntmps58
  go_wp2
  go_loopw [8] (fun v wr => ∃ i : Nat, i ≤ l.length ∧ v = .int .i64 i ∧ wr = w ∧ Hid (q = (l.drop i).any fun z => decide (x = z))) (fun v _ => l.length - (intOf v).toNat)
  case atStart => exact ⟨0, Nat.zero_le _, rfl, rfl, HN⟩
  case round =>
    obtain ⟨i, hi, rfl, rfl, HI⟩ := hrel
    by_cases hlt : i < l.length
    · have i1 : (i : Int) < (l.length : Int) := by omega
      have i0 : (0 : Int) ≤ (i : Int) := by omega
      obtain ⟨y, hy⟩ : ∃ y, l[i]? = some y := ⟨_, List.getElem?_eq_getElem hlt⟩
      have HS := hid (con_step (x := x) hy)
      obtain ⟨b, o, rfl, _, _, e0⟩ := txt_get HL.out hy
      have eq1 := lm_beq x y
      clear hy
      by_cases hp : x = y
      · have HE := hid (show q = true by rw [HI.out, HS.out]; simp [hp])
        have ed : decide (x = y) = true := by simp [hp]
        rw [ed] at eq1
        clear hp ed
        go_wp2
        go_ret
        exact ⟨_, rfl, by rw [HE.out]; simp, Below.refl _ _⟩
      · have HE := hid (show q = (l.drop (i + 1)).any fun z => decide (x = z) by rw [HI.out, HS.out]; simp [hp])
        have ed : decide (x = y) = false := by simp [hp]
        rw [ed] at eq1
        clear hp ed
        go_wp2
        go_roundw
        case rel => first | exact ⟨i + 1, by omega, by go_num, by first | rfl | trivial, HE⟩ | ((repeat apply Exists.intro); exact ⟨⟨i + 1, by omega, by go_num, by first | rfl | trivial, HE⟩, rfl⟩) | (refine ⟨trivial, ?_⟩; (repeat apply Exists.intro); exact ⟨⟨i + 1, by omega, by go_num, by first | rfl | trivial, HE⟩, rfl⟩)
        case measure => simp [intOf]; omega
    · have i1 : ¬ (i : Int) < (l.length : Int) := by omega
      have HE := hid (show q = false by rw [HI.out, List.drop_eq_nil_of_le (by omega)]; rfl)
      go_wp2
      go_ret
      exact ⟨_, rfl, by rw [HE.out]; rfl, Below.refl _ _⟩
set_option maxHeartbeats 1000000 in
theorem containsA_any (Q : Nat → Prop) (l : List Adr) (x : Adr) (a : Option Addr) (c : Nat) (w : World) (h : AdrsM Q w (.slice a l.length c) l) :
    Calls Try.prog 39 #[.slice a l.length c, .agg #[.string (S x.1), .string (S x.2)]] w fun e w' => e = .returned (.bool (l.contains x)) ∧ Below w.heap.size w w' := by
  have HB1 := hid (show Below w.heap.size w (w.alloc (.cells #[.string (S x.1), .string (S x.2)] 23)) from (Below.refl _ _).alloc (Nat.le_refl _) _)
  have HX := hid (indexA_any Q l x a c _ (h.next HB1.out))
  rw [← con_any]
  clear h
  go_enter Try.func39, Try.ntmps39
  go_wp2_with fail
  refine HX.out.mono ?_
  rintro e u ⟨z, rfl, hz, hb⟩
  have HZ := hid hz
  have HB := hid hb
  clear hz hb
  go_wp2
  go_ret
  exact ⟨ret_bool (by rw [← HZ.out]), wnext HB1.out HB.out (Nat.le_refl _)⟩
set_option maxHeartbeats 1000000 in
theorem containsT_any (Q : Nat → Prop) (l : List (List UInt8)) (x : List UInt8) (a : Option Addr) (c : Nat) (w : World) (h : TxtsM Q w (.slice a l.length c) l) :
    Calls Try.prog 45 #[.slice a l.length c, .string (S x)] w fun e w' => e = .returned (.bool (l.contains x)) ∧ Below w.heap.size w w' := by
  have HX := hid (indexT_any Q l x a c _ h)
  rw [← con_any]
  clear h
  go_enter Try.func45, Try.ntmps45
  go_wp2_with fail
  refine HX.out.mono ?_
  rintro e u ⟨z, rfl, hz, hb⟩
  have HZ := hid hz
  have HB := hid hb
  clear hz hb
  go_wp2
  go_ret
  exact ⟨ret_bool (by rw [← HZ.out]), HB.out⟩
theorem adr_one (l : List Adr) : ∀ u ∈ cellsL l, u.oneCell' = true := by
  intro u hu
  obtain ⟨cs, hcs, hu⟩ := List.mem_flatten.1 hu
  obtain ⟨m, _, rfl⟩ := List.mem_map.1 hcs
  simp only [List.mem_cons, List.not_mem_nil, or_false] at hu
  rcases hu with rfl | rfl <;> rfl
theorem infoAdr : (Try.prog.info? 23).map (fun i => (i.zero, i.size, i.bytes)) = some (some (.agg #[.string ByteArray.empty, .string ByteArray.empty]), 2, 32) := by kernel_rfl
theorem cellsL_lies {Q : Nat → Prop} {w : World} {b o c : Nat} {l : List Adr} (h : AdrsM Q w (.slice (some ⟨b, o, none⟩) l.length c) l) : ∀ j u, (cellsL l)[j]? = some u → w.cell? ((⟨b, o, none⟩ : Addr).add j) = some u := by
  intro j u hj
  have hlen : j < l.length * 2 := by rw [← cellsL_length]; exact (List.getElem?_eq_some_iff.1 hj).1
  obtain ⟨x, hx⟩ : ∃ x, l[j / 2]? = some x := ⟨_, List.getElem?_eq_getElem (by omega)⟩
  obtain ⟨b', o', e, _, _, e0, e1⟩ := adr_get h hx
  simp only [Option.some.injEq, Addr.mk.injEq, and_true] at e
  obtain ⟨rfl, rfl⟩ := e
  obtain ⟨g0, g1⟩ := cellsL_get hx
  rw [Addr.add_lit]
  rcases Nat.mod_two_eq_zero_or_one j with hm | hm
  · have ej : j = j / 2 * 2 := by omega
    rw [← ej] at g0 e0
    rw [g0] at hj
    rw [← hj]; exact e0
  · have ej : j = j / 2 * 2 + 1 := by omega
    rw [← ej] at g1
    rw [show o + j / 2 * 2 + 1 = o + j by omega] at e1
    rw [g1] at hj
    rw [← hj]; exact e1
set_option maxHeartbeats 1000000 in
set_option maxRecDepth 100000 in
theorem cloneA_any (Q : Nat → Prop) (l : List Adr) (v : Value) (w : World) (h : AdrsM Q w v l) (hn : l.length ≤ 1000) :
    Calls Try.prog 26 #[v] w fun e w' => ∃ v', e = .returned v' ∧ OwnL w' w.heap.size v' l ∧ Below w.heap.size w w' := by
  obtain ⟨i0, hi, hz0, hz1, hz2⟩ := info_parts infoAdr
  have q22 : ∀ (w : World) (a : Option Addr) (n c n' c' : Nat), (binOp .eql 24 (.slice a n c) (.slice none n' c')).run Try.prog w = .ok (.bool a.isNone) w := fun w a n c n' c' => Lib.run_eql_slice_nil w _ _ a n c n' c' Try.underlying24
  obtain ⟨a, c, rfl, hm, hr⟩ := h
  cases a with
  | none =>
    have hl : l = [] := by
      cases l with
      | nil => rfl
      | cons x t => obtain ⟨_, _, _, e, _⟩ := hr 0 x rfl; cases e
    subst hl
    clear hr
    go_enter Try.func26, Try.ntmps26
    go_wp2
    go_ret
    exact ⟨_, rfl, OwnL.nil _ _, Below.refl _ _⟩
  | some ad =>
    have hc : ∀ j u, (cellsL l)[j]? = some u → w.cell? (ad.add j) = some u := by
      intro j u hj
      have hlen : j < l.length * 2 := by rw [← cellsL_length]; exact (List.getElem?_eq_some_iff.1 hj).1
      obtain ⟨x, hx⟩ : ∃ x, l[0]? = some x := ⟨_, List.getElem?_eq_getElem (by omega)⟩
      obtain ⟨b, o, cs, e, _⟩ := hr 0 x hx
      simp only [Option.some.injEq] at e
      subst e
      exact cellsL_lies (c := c) (show AdrsM Q w (.slice (some ⟨b, o, none⟩) l.length c) l from ⟨some ⟨b, o, none⟩, c, rfl, hm, hr⟩) j u hj
    have HC := hid hc
    have H1 := hid (adr_one l)
    have HL := hid (cellsL_length l)
    clear hc hr
    go_enter Try.func26, Try.ntmps26
    go_wp2_with (at_builtin; refine wpList_append_own _ rfl _ _ 24 rfl w.heap.size 23 i0 _ 2 32 Try.underlying24 hi hz0 hz1 hz2 rfl (by decide) _ _ _ rfl (World.ownsRow_made w #[] 0 (Nat.le_refl _) (Nat.zero_le _) rfl) ad l.length c (cellsL l) rfl ?qc1 ?qc2 ?qc3 ?qc4 ?qc5 ?qc6 ?_)
    case qc1 => exact HL.out
    case qc2 => exact fun j u hj => Lib.cell?_alloc_some _ (HC.out j u hj)
    case qc3 => exact H1.out
    case qc4 => unfold maxLen; omega
    case qc5 => omega
    case qc6 => simp
    intro v' w1 hown hgrow hnil
    have HO := hid hown
    have HB := hid (show Below w.heap.size w w1 from ((Below.refl _ w).alloc (Nat.le_refl _) _).grown hgrow (by simp) (by intro k hk; simp [Value.ownBlock] at hk; omega))
    clear hown hgrow hnil
    go_wp2
    go_ret
    exact ⟨v', rfl, by unfold OwnL; simpa using HO.out, HB.out⟩
end Go.Proofs.Ytkdmccgfehmoaaa
