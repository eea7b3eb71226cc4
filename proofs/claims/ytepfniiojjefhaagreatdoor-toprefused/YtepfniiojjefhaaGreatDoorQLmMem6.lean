/-
  Addresses and texts in memory, for sessions: where they lie, and how they are found.
  What slices.Contains and Clone do at rows of addresses and texts: the walks.
  What addUser does with a user that is refused: the walks.
  What post.Run and open do with users that are refused: the walks.
  A box beside rows of its own that are written: how these stay apart, and what stays as it was.
  Drawn regions whose last operations write what others of them load: a condition T is to be kept by every operation but the late ones, and an operation for which all late ones wait may be taken first under T.
-/
import Derived.Test.YtepfniiojjefhaaGreatDoorLmPur
import Derived.Test.YtepfniiojjefhaaGreatDoorQPure6
import Derived.Test.YtepfniiojjefhaaGreatDoorRowGen
import Derived.Test.YtepfniiojjefhaaGreatDoorRows
import Derived.WalkKit
import Derived.Laws.StructEq
import Derived.Lib.SliceRun
import Derived.Deep.AppendLies
import Derived.Deep.RegionHeld3
import Derived.Deep.RegionLaw
import Derived.Deep.QuietTactic
import Derived.BigQuiet
import Derived.Shelf.Abstract
import Derived.Test.YtepfniiojjefhaaGreatDoorPoNl
import Derived.Test.YtepfniiojjefhaaGreatDoorQScrCard10
import Derived.Test.YtepfniiojjefhaaGreatDoorQScrRd135
namespace Go.Proofs.YtepfniiojjefhaaGreatDoor
open Go.RowKit Go.Proofs

theorem lm_ne {a b : ByteArray} (h : ¬ a = b) : (a.toList == b.toList) = false := by
  rw [beq_eq_false_iff_ne]
  intro e
  rw [Lib.toList_data, Lib.toList_data] at e
  apply h
  obtain ⟨⟨x⟩⟩ := a
  obtain ⟨⟨y⟩⟩ := b
  simp only at e
  rw [e]
theorem lm_beq (a b : List UInt8) : ((S a).toList == (S b).toList) = decide (a = b) := by
  by_cases h : a = b
  · subst h; simp
  · rw [lm_ne fun e => h (S_inj e)]; simp [h]
def AdrM (x : Adr) (cs : List Value) : Prop := cs = [.string (S x.1), .string (S x.2)]
/-- Addresses lie in a row. -/
def AdrsM (Q : Nat → Prop) (w : World) (v : Value) (l : List Adr) : Prop := RowM Q 2 AdrM w v l
def cellsL (l : List Adr) : List Value := (l.map fun x => [Value.string (S x.1), .string (S x.2)]).flatten
/-- A row of addresses that was made from a block on. -/
def OwnL (w : World) (B : Nat) (v : Value) (l : List Adr) : Prop := w.ownsRow B 59 2 v l.length (cellsL l)
theorem txt_get {Q : Nat → Prop} {w : World} {a : Option Addr} {c : Nat} {l : List (List UInt8)} (h : TxtsM Q w (.slice a l.length c) l) {i : Nat} {x : List UInt8} (hx : l[i]? = some x) :
    ∃ b o, a = some ⟨b, o, none⟩ ∧ b < w.heap.size ∧ Q b ∧ w.cell? ⟨b, o + i, none⟩ = some (.string (S x)) := by
  obtain ⟨a', c', hv, _, hr⟩ := h
  simp only [Value.slice.injEq, true_and] at hv
  obtain ⟨rfl, rfl⟩ := hv
  obtain ⟨b, o, cs, rfl, hb, hQ, _, hc, hP⟩ := hr i x hx
  have hcs : cs = _ := hP
  subst hcs
  exact ⟨b, o, rfl, hb, hQ, by simpa using hc 0 _ rfl⟩
theorem AdrsM.next {Q : Nat → Prop} {w w' : World} {v : Value} {l : List Adr} (h : AdrsM Q w v l) (hb : Below w.heap.size w w') : AdrsM Q w' v l := RowM.imp h (fun _ h => h) (Keeps.of_below hb) fun _ _ h => h
theorem AdrsM.any {Q : Nat → Prop} {w : World} {v : Value} {l : List Adr} (h : AdrsM Q w v l) : AdrsM anyB w v l := RowM.imp h (fun _ _ => trivial) (Keeps.refl _ _) fun _ _ h => h
theorem cellsL_get {l : List Adr} {i : Nat} {x : Adr} (h : l[i]? = some x) : (cellsL l)[i * 2]? = some (.string (S x.1)) ∧ (cellsL l)[i * 2 + 1]? = some (.string (S x.2)) := by
  induction l generalizing i with
  | nil => simp at h
  | cons g l ih =>
    cases i with
    | zero => simp at h; subst h; simp [cellsL]
    | succ i =>
      have := ih (i := i) (by simpa using h)
      have e1 : (i + 1) * 2 = i * 2 + 2 := by omega
      rw [e1]
      simpa [cellsL] using this
theorem OwnL.slice {w : World} {B : Nat} {v : Value} {l : List Adr} (h : OwnL w B v l) : ∃ a c, v = .slice a l.length c := by
  rcases h.2 with ⟨rfl, hn⟩ | ⟨g, cap, cur, rfl, _⟩
  · exact ⟨none, 0, by rw [hn]⟩
  · exact ⟨_, _, rfl⟩
theorem OwnL.row {w : World} {B : Nat} {v : Value} {l : List Adr} (h : OwnL w B v l) (hm : l.length ≤ maxLen) : AdrsM (B ≤ ·) w v l := by
  obtain ⟨a, c, rfl⟩ := h.slice
  refine ⟨a, c, rfl, hm, fun i x hx => ?_⟩
  have hi : i < l.length := (List.getElem?_eq_some_iff.1 hx).1
  obtain ⟨g, cap, e, hb, hg⟩ := World.ownsRow.form h (by omega)
  simp only [Value.slice.injEq, true_and] at e
  obtain ⟨rfl, rfl⟩ := e
  obtain ⟨h1, h2⟩ := cellsL_get hx
  refine ⟨g, 0, _, rfl, hg, hb, rfl, ?_, rfl⟩
  intro j u hj
  match j, hj with
  | 0, hj =>
    simp only [List.getElem?_cons_zero, Option.some.injEq] at hj
    subst hj
    rw [show 0 + i * 2 + 0 = i * 2 by omega, World.ownsRow.cellAt h (i * 2) (by omega)]; exact h1
  | 1, hj =>
    simp only [List.getElem?_cons_succ, List.getElem?_cons_zero, Option.some.injEq] at hj
    subst hj
    rw [show 0 + i * 2 + 1 = i * 2 + 1 by omega, World.ownsRow.cellAt h (i * 2 + 1) (by omega)]; exact h2
theorem OwnL.nil (w : World) (B : Nat) : OwnL w B (.slice none 0 0) [] := World.ownsRow_nil _ _ _ _
end Go.Proofs.YtepfniiojjefhaaGreatDoor
namespace Go.Proofs.YtepfniiojjefhaaGreatDoor
open Go.RowKit Go.Proofs

theorem con_step {A : Type} [DecidableEq A] {l : List A} {i : Nat} {x y : A} (h : l[i]? = some y) : (l.drop i).any (fun z => decide (x = z)) = (decide (x = y) || (l.drop (i + 1)).any (fun z => decide (x = z))) := by
  have hi : i < l.length := (List.getElem?_eq_some_iff.1 h).1
  have e : l[i] = y := (List.getElem?_eq_some_iff.1 h).2
  rw [List.drop_eq_getElem_cons hi, e]; rfl
theorem con_any {A : Type} [BEq A] [LawfulBEq A] [DecidableEq A] (l : List A) (x : A) : l.any (fun z => decide (x = z)) = l.contains x := by
  induction l with
  | nil => rfl
  | cons y l ih =>
    rw [List.any_cons, ih, List.contains_cons]
    by_cases h : x = y
    · subst h; simp
    · simp [h]
/-- What Index hands back: a place just where there is one. -/
def IxP (w : World) (q : Bool) (e : Ending) (w' : World) : Prop := ∃ z : Int, e = .returned (.int .i64 z) ∧ decide (0 ≤ z) = q ∧ Below w.heap.size w w'
set_option maxHeartbeats 2000000 in
set_option maxRecDepth 100000 in
theorem indexT_any (Q : Nat → Prop) (l : List (List UInt8)) (x : List UInt8) (a : Option Addr) (c : Nat) (w : World) (h : TxtsM Q w (.slice a l.length c) l) :
    Calls Tryz.prog 50 #[.slice a l.length c, .string (S x)] w (IxP w (l.any fun z => decide (x = z))) := by
  have hm : l.length ≤ maxLen := by obtain ⟨_, _, _, hm, _⟩ := h; exact hm
  unfold maxLen at hm
  have HL := hid h
  clear h
  have HN : Hid ((l.any fun z => decide (x = z)) = (l.drop 0).any fun z => decide (x = z)) := rfl
  obtain ⟨q, hq⟩ : ∃ q, q = l.any fun z => decide (x = z) := ⟨_, rfl⟩
  rw [← hq] at HN ⊢
  clear hq
  go_enter Tryz.func50, Tryz.ntmps50
  go_wp2
  go_loopw [8] (fun v wr => ∃ i : Nat, i ≤ l.length ∧ v = .int .i64 i ∧ wr = w ∧ Hid (q = (l.drop i).any fun z => decide (x = z))) (fun v _ => l.length - (intOf v).toNat)
  case atStart => exact ⟨0, Nat.zero_le _, rfl, rfl, HN⟩
  case round =>
    obtain ⟨i, hi, rfl, rfl, HI⟩ := hrel
    by_cases hlt : i < l.length
    · have i1 : (i : Int) < (l.length : Int) := by omega
      have i0 : (0 : Int) ≤ (i : Int) := by omega
      obtain ⟨y, hy⟩ : ∃ y, l[i]? = some y := ⟨_, List.getElem?_eq_getElem hlt⟩
      have HS := hid (con_step (x := x) hy)
      obtain ⟨b, o, rfl, _, _, e0⟩ := txt_get HL.out hy
      have eq1 := lm_beq x y
      clear hy
      by_cases hp : x = y
      · have HE := hid (show q = true by rw [HI.out, HS.out]; simp [hp])
        have ed : decide (x = y) = true := by simp [hp]
        rw [ed] at eq1
        clear hp ed
        go_wp2
        go_ret
        exact ⟨_, rfl, by rw [HE.out]; simp, Below.refl _ _⟩
      · have HE := hid (show q = (l.drop (i + 1)).any fun z => decide (x = z) by rw [HI.out, HS.out]; simp [hp])
        have ed : decide (x = y) = false := by simp [hp]
        rw [ed] at eq1
        clear hp ed
        go_wp2
        go_roundw
        case rel => first | exact ⟨i + 1, by omega, by go_num, by first | rfl | trivial, HE⟩ | ((repeat apply Exists.intro); exact ⟨⟨i + 1, by omega, by go_num, by first | rfl | trivial, HE⟩, rfl⟩) | (refine ⟨trivial, ?_⟩; (repeat apply Exists.intro); exact ⟨⟨i + 1, by omega, by go_num, by first | rfl | trivial, HE⟩, rfl⟩)
        case measure => simp [intOf]; omega
    · have i1 : ¬ (i : Int) < (l.length : Int) := by omega
      have HE := hid (show q = false by rw [HI.out, List.drop_eq_nil_of_le (by omega)]; rfl)
      go_wp2
      go_ret
      exact ⟨_, rfl, by rw [HE.out]; rfl, Below.refl _ _⟩
set_option maxHeartbeats 1000000 in
theorem containsT_any (Q : Nat → Prop) (l : List (List UInt8)) (x : List UInt8) (a : Option Addr) (c : Nat) (w : World) (h : TxtsM Q w (.slice a l.length c) l) :
    Calls Tryz.prog 28 #[.slice a l.length c, .string (S x)] w fun e w' => e = .returned (.bool (l.contains x)) ∧ Below w.heap.size w w' := by
  have HX := hid (indexT_any Q l x a c _ h)
  rw [← con_any]
  clear h
  go_enter Tryz.func28, Tryz.ntmps28
  go_wp2_with fail
  refine HX.out.mono ?_
  rintro e u ⟨z, rfl, hz, hb⟩
  have HZ := hid hz
  have HB := hid hb
  clear hz hb
  go_wp2
  go_ret
  exact ⟨ret_bool (by rw [← HZ.out]), HB.out⟩
end Go.Proofs.YtepfniiojjefhaaGreatDoor
namespace Go.Proofs.YtepfniiojjefhaaGreatDoor
open Go.RowKit Go.Proofs

/-- A room's box: the locals and the scripts stand in its cells 34 and 35. -/
def RmB (w : World) (b : Nat) (cs : List Value) : Prop := w.heap[b]? = some (.cells cs.toArray 70) ∧ cs.length = 38
theorem RmB.cell {w : World} {b : Nat} {cs : List Value} (h : RmB w b cs) {j : Nat} {v : Value} (hj : cs[j]? = some v) : w.cell? ⟨b, j, none⟩ = some v := by
  simp only [World.cell?, h.1]
  simpa using hj
theorem RmB.next {w w' : World} {b : Nat} {cs : List Value} (h : RmB w b cs) (hb : Below w.heap.size w w') : RmB w' b cs := ⟨(hb.block b (Array.getElem?_eq_some_iff.1 h.1).1).trans h.1, h.2⟩
/-- A user that is refused ahead of its script. -/
def AdE (w : World) (r : Int) (e : Ending) (w' : World) : Prop := e = .returned (.int .i64 r) ∧ Below w.heap.size w w'
set_option maxHeartbeats 1000000 in
set_option maxRecDepth 100000 in
theorem adu_form (b : Nat) (lo sc : List UInt8) (w : World) (hc : checkA lo [120] ≠ 0) (hl : lo.length ≤ 2000) :
    Calls Tryz.prog 15 #[.pointer (some ⟨b, 0, none⟩), .agg #[.string (S lo), .string (S sc)]] w (AdE w 3) := by
  have HC := hid (fun u => check_any (S lo) ⟨#[120]⟩ u (by rw [size_S]; omega) (by decide))
  obtain ⟨k, hk⟩ : ∃ k, k = checkA lo [120] := ⟨_, rfl⟩
  have HK := hid hk
  rw [← hk] at hc
  clear hk
  go_enter Tryz.func15, Tryz.ntmps15
  go_wp2_with fail
  refine (HC.out _).mono ?_
  rw [show checkA (S lo).data.toList (⟨#[120]⟩ : ByteArray).data.toList = k by rw [HK.out, list_S]]
  rintro e w1 ⟨rfl, hb1⟩
  have HB1 := hid (show Below w.heap.size w w1 from ((Below.refl _ _).alloc (Nat.le_refl _) _).trans (hb1.mono (by simp)))
  clear hb1
  go_wp2
  go_ret
  exact ⟨rfl, HB1.out⟩
set_option maxHeartbeats 1000000 in
set_option maxRecDepth 100000 in
theorem adu_twice (b : Nat) (lo sc : List UInt8) (cs : List Value) (L : List (List UInt8)) (al : Option Addr) (cl : Nat) (v35 : Value) (Q : Nat → Prop) (w : World) (hR : RmB w b cs) (h34 : cs[34]? = some (.slice al L.length cl)) (h35 : cs[35]? = some v35) (hX : TxtsM Q w (.slice al L.length cl) L) (hc : checkA lo [120] = 0) (hl : lo.length ≤ 2000) (hm : L.contains lo = true) :
    Calls Tryz.prog 15 #[.pointer (some ⟨b, 0, none⟩), .agg #[.string (S lo), .string (S sc)]] w (AdE w 10) := by
  have HC := hid (fun u => check_any (S lo) ⟨#[120]⟩ u (by rw [size_S]; omega) (by decide))
  have HK := hid hc
  have HR := hid hR
  have HLX := hid hX
  have hbl : b < w.heap.size := (Array.getElem?_eq_some_iff.1 hR.1).1
  clear hc hR hX
  go_enter Tryz.func15, Tryz.ntmps15
  go_wp2_with fail
  refine (HC.out _).mono ?_
  rw [show checkA (S lo).data.toList (⟨#[120]⟩ : ByteArray).data.toList = 0 by rw [list_S]; exact HK.out]
  rintro e w1 ⟨rfl, hb1⟩
  have hB1 : Below w.heap.size w w1 := ((Below.refl _ _).alloc (Nat.le_refl _) _).trans (hb1.mono (by simp))
  have HB1 := hid hB1
  have hu1 : w1.heap[w.heap.size]? = some (.cells #[.string (S lo), .string (S sc)] 28) := (hb1.block _ (by simp)).trans (heap_alloc_new w _)
  have hz1 : w.heap.size < w1.heap.size := (Array.getElem?_eq_some_iff.1 hu1).1
  have u0 : w1.cell? ⟨w.heap.size, 0, none⟩ = some (.string (S lo)) := by simp [World.cell?, hu1]
  have u1 : w1.cell? ⟨w.heap.size, 1, none⟩ = some (.string (S sc)) := by simp [World.cell?, hu1]
  have r34 := (HR.out.next hB1).cell h34
  have r35 := (HR.out.next hB1).cell h35
  have HCN := hid (show ∀ v, Below w1.heap.size w1 v → Calls Tryz.prog 28 #[.slice al L.length cl, .string (S lo)] v fun e w' => e = .returned (.bool (L.contains lo)) ∧ Below w1.heap.size w1 w' from fun v hv => (containsT_any Q L lo al cl v (HLX.out.next (hB1.trans (hv.mono hB1.size)))).mono fun e w' h => ⟨h.1, hv.trans (h.2.mono hv.size)⟩)
  obtain ⟨q, hq⟩ : ∃ q, q = L.contains lo := ⟨_, rfl⟩
  rw [← hq] at hm HCN
  have HQ := hid hm
  clear hq hm
  have HCE := hid (show ∀ v, Below w1.heap.size w1 v → v.cell? ⟨b, 34, none⟩ = some (.slice al L.length cl) ∧ v.cell? ⟨w.heap.size, 0, none⟩ = some (.string (S lo)) from fun v hv => ⟨wcell_next r34 hv, wcell_next u0 hv⟩)
  clear hb1 hB1 hu1
  go_upto_region 3 with fail
  go_cut [13] (fun v wx => v = .bool q ∧ Below w1.heap.size w1 wx)
  case first =>
    go_region_held3 (fun w' => w'.cell? ⟨b, 34, none⟩ = some (.slice al L.length cl) ∧ w'.cell? ⟨w.heap.size, 0, none⟩ = some (.string (S lo))) (first | exact HCE.out _ HBV.out | exact HCE.out _ ((Below.refl _ _).drew) | exact HCE.out _ (Below.refl _ _) | fail)
      (first
        | (go_at_call 28
           with_reducible refine (HCN.out _ ?_).mono ?_
           · first | exact Below.refl _ _ | exact (Below.refl _ _).drew
           rintro e w2 ⟨rfl, hb2⟩
           have HBV := hid hb2
           clear hb2)
        | fail)
    all_goals (go_wp2_with fail; go_meet; exact ⟨rfl, HBV.out⟩)
  case rest =>
    obtain ⟨hv, hBx⟩ := hcut
    subst hv
    obtain ⟨W2, rfl⟩ : ∃ W, W = wc := ⟨_, rfl⟩
    have HB2 := hid (show Below w.heap.size w W2 from HB1.out.trans (hBx.mono HB1.out.size))
    have u1 := wcell_next u1 hBx
    rw [HQ.out]
    clear hBx
    go_wp2
    go_ret
    exact ⟨rfl, HB2.out⟩
set_option maxHeartbeats 1000000 in
set_option maxRecDepth 100000 in
theorem adu_err (b : Nat) (lo sc : List UInt8) (cs : List Value) (L : List (List UInt8)) (al : Option Addr) (cl : Nat) (v35 : Value) (Q : Nat → Prop) (w : World) (hR : RmB w b cs) (h34 : cs[34]? = some (.slice al L.length cl)) (h35 : cs[35]? = some v35) (hX : TxtsM Q w (.slice al L.length cl) L) (hc : checkA lo [120] = 0) (hl : lo.length ≤ 2000) (hm : L.contains lo = false) (n : Nat) (r : Int) (hr : r ≠ 0) (hRd : ∀ v, Below w.heap.size w v → Calls Tryz.prog 29 #[.string (S sc)] v (RdP v n ([], r))) :
    Calls Tryz.prog 15 #[.pointer (some ⟨b, 0, none⟩), .agg #[.string (S lo), .string (S sc)]] w (AdE w r) := by
  have HRD := hid hRd
  clear hRd
  have HC := hid (fun u => check_any (S lo) ⟨#[120]⟩ u (by rw [size_S]; omega) (by decide))
  have HK := hid hc
  have HR := hid hR
  have HLX := hid hX
  have hbl : b < w.heap.size := (Array.getElem?_eq_some_iff.1 hR.1).1
  clear hc hR hX
  go_enter Tryz.func15, Tryz.ntmps15
  go_wp2_with fail
  refine (HC.out _).mono ?_
  rw [show checkA (S lo).data.toList (⟨#[120]⟩ : ByteArray).data.toList = 0 by rw [list_S]; exact HK.out]
  rintro e w1 ⟨rfl, hb1⟩
  have hB1 : Below w.heap.size w w1 := ((Below.refl _ _).alloc (Nat.le_refl _) _).trans (hb1.mono (by simp))
  have HB1 := hid hB1
  have hu1 : w1.heap[w.heap.size]? = some (.cells #[.string (S lo), .string (S sc)] 28) := (hb1.block _ (by simp)).trans (heap_alloc_new w _)
  have hz1 : w.heap.size < w1.heap.size := (Array.getElem?_eq_some_iff.1 hu1).1
  have u0 : w1.cell? ⟨w.heap.size, 0, none⟩ = some (.string (S lo)) := by simp [World.cell?, hu1]
  have u1 : w1.cell? ⟨w.heap.size, 1, none⟩ = some (.string (S sc)) := by simp [World.cell?, hu1]
  have r34 := (HR.out.next hB1).cell h34
  have r35 := (HR.out.next hB1).cell h35
  have HCN := hid (show ∀ v, Below w1.heap.size w1 v → Calls Tryz.prog 28 #[.slice al L.length cl, .string (S lo)] v fun e w' => e = .returned (.bool (L.contains lo)) ∧ Below w1.heap.size w1 w' from fun v hv => (containsT_any Q L lo al cl v (HLX.out.next (hB1.trans (hv.mono hB1.size)))).mono fun e w' h => ⟨h.1, hv.trans (h.2.mono hv.size)⟩)
  obtain ⟨q, hq⟩ : ∃ q, q = L.contains lo := ⟨_, rfl⟩
  rw [← hq] at hm HCN
  have HQ := hid hm
  clear hq hm
  have HCE := hid (show ∀ v, Below w1.heap.size w1 v → v.cell? ⟨b, 34, none⟩ = some (.slice al L.length cl) ∧ v.cell? ⟨w.heap.size, 0, none⟩ = some (.string (S lo)) from fun v hv => ⟨wcell_next r34 hv, wcell_next u0 hv⟩)
  clear hb1 hB1 hu1
  go_upto_region 3 with fail
  go_cut [13] (fun v wx => v = .bool q ∧ Below w1.heap.size w1 wx)
  case first =>
    go_region_held3 (fun w' => w'.cell? ⟨b, 34, none⟩ = some (.slice al L.length cl) ∧ w'.cell? ⟨w.heap.size, 0, none⟩ = some (.string (S lo))) (first | exact HCE.out _ HBV.out | exact HCE.out _ ((Below.refl _ _).drew) | exact HCE.out _ (Below.refl _ _) | fail)
      (first
        | (go_at_call 28
           with_reducible refine (HCN.out _ ?_).mono ?_
           · first | exact Below.refl _ _ | exact (Below.refl _ _).drew
           rintro e w2 ⟨rfl, hb2⟩
           have HBV := hid hb2
           clear hb2)
        | fail)
    all_goals (go_wp2_with fail; go_meet; exact ⟨rfl, HBV.out⟩)
  case rest =>
    obtain ⟨hv, hBx⟩ := hcut
    subst hv
    obtain ⟨W2, rfl⟩ : ∃ W, W = wc := ⟨_, rfl⟩
    have HB2 := hid (show Below w.heap.size w W2 from HB1.out.trans (hBx.mono HB1.out.size))
    have u1 := wcell_next u1 hBx
    rw [HQ.out]
    clear hBx
    go_wp2_with fail
    refine (HRD.out W2 HB2.out).mono ?_
    rintro e w3 ⟨a3, c3, rfl, _, hb3, _⟩
    simp only
    have HB3 := hid (HB2.out.trans (hb3.mono HB2.out.size))
    clear hb3
    go_wp2
    go_ret
    exact ⟨rfl, HB3.out⟩
end Go.Proofs.YtepfniiojjefhaaGreatDoor
namespace Go.Proofs.YtepfniiojjefhaaGreatDoor
open Go.RowKit Go.Proofs

/-- open refuses. -/
def OpE (w : World) (r : Int) (e : Ending) (w' : World) : Prop := e = .returned (.tuple #[.pointer none, .int .i64 r]) ∧ Below w.heap.size w w'
/-- Run refuses. -/
def RuE (w : World) (r : Int) (e : Ending) (w' : World) : Prop := e = .returned (.tuple #[.agg #[.bool false, .slice none 0 0, .slice none 0 0, .slice none 0 0, .int .i64 0], .int .i64 r]) ∧ Below w.heap.size w w'
set_option maxHeartbeats 1000000 in
set_option maxRecDepth 100000 in
theorem run_ref (us ac : Value) (r : Int) (hr : r ≠ 0) (w : World) (hO : ∀ v, Below w.heap.size w v → Calls Tryz.prog 9 #[us] v (OpE v r)) :
    Calls Tryz.prog 6 #[us, ac] w (RuE w r) := by
  have HO := hid (hO _ ((Below.refl _ w).alloc (Nat.le_refl _) (.cells #[.bool false, .slice none 0 0, .slice none 0 0, .slice none 0 0, .int .i64 0] 33)))
  clear hO
  go_enter Tryz.func6, Tryz.ntmps6
  go_wp2_with fail
  refine HO.out.mono ?_
  rintro e w1 ⟨rfl, hb1⟩
  have hB1 : Below w.heap.size w w1 := ((Below.refl _ _).alloc (Nat.le_refl _) _).trans (hb1.mono (by simp))
  have hz := (hb1.block w.heap.size (by simp)).trans (heap_alloc_new w _)
  have c0 : w1.cell? ⟨w.heap.size, 0, none⟩ = some (.bool false) := by simp [World.cell?, hz]
  have c1 : w1.cell? ⟨w.heap.size, 1, none⟩ = some (.slice none 0 0) := by simp [World.cell?, hz]
  have c2 : w1.cell? ⟨w.heap.size, 2, none⟩ = some (.slice none 0 0) := by simp [World.cell?, hz]
  have c3 : w1.cell? ⟨w.heap.size, 3, none⟩ = some (.slice none 0 0) := by simp [World.cell?, hz]
  have c4 : w1.cell? ⟨w.heap.size, 4, none⟩ = some (.int .i64 0) := by simp [World.cell?, hz]
  have zf : ∀ o, w1.frozen? ⟨w.heap.size, o, none⟩ = false := fun o => by simp [World.frozen?, hz]
  have HZ := hid hz
  have HB1 := hid hB1
  clear hb1 hB1 hz
  go_wp2
  have hput := HZ.out
  have hput := heap_setCell_same _ w.heap.size 0 _ _ (.bool false) hput
  have hput := heap_setCell_same _ w.heap.size 1 _ _ (.slice none 0 0) hput
  have hput := heap_setCell_same _ w.heap.size 2 _ _ (.slice none 0 0) hput
  have hput := heap_setCell_same _ w.heap.size 3 _ _ (.slice none 0 0) hput
  have hput := heap_setCell_same _ w.heap.size 4 _ _ (.int .i64 0) hput
  simp at hput
  have cc : ∀ (W : World), W.heap[w.heap.size]? = some (.cells #[.bool false, .slice none 0 0, .slice none 0 0, .slice none 0 0, .int .i64 0] 33) → W.cell? ⟨w.heap.size, 0, none⟩ = some (.bool false) ∧ W.cell? ⟨w.heap.size, 1, none⟩ = some (.slice none 0 0) ∧ W.cell? ⟨w.heap.size, 2, none⟩ = some (.slice none 0 0) ∧ W.cell? ⟨w.heap.size, 3, none⟩ = some (.slice none 0 0) ∧ W.cell? ⟨w.heap.size, 4, none⟩ = some (.int .i64 0) := fun W h => by
    refine ⟨?_, ?_, ?_, ?_, ?_⟩ <;> simp [World.cell?, h]
  obtain ⟨m0, m1, m2, m3, m4⟩ := cc _ hput
  have hlow := cells_low (b := w.heap.size) (o := 0) (vs := [.bool false, .slice none 0 0, .slice none 0 0, .slice none 0 0, .int .i64 0]) (Nat.le_refl _) HB1.out
  simp only [World.setCells, Nat.reduceAdd] at hlow
  refine bodyPost_ret (v := .tuple #[.agg #[.bool false, .slice none 0 0, .slice none 0 0, .slice none 0 0, .int .i64 0], .int .i64 r]) (by simp only [results, Tryz.results6]; simp [go_sem, m0, m1, m2, m3, m4]) rfl ?_
  exact ⟨rfl, hlow⟩
set_option maxHeartbeats 1000000 in
theorem open_none (a : Option Addr) (c : Nat) (w : World) : Calls Tryz.prog 9 #[.slice a 0 c] w (OpE w 1) := by
  go_enter Tryz.func9, Tryz.ntmps9
  go_wp2
  go_ret2
  exact ⟨rfl, Below.refl _ _⟩
set_option maxHeartbeats 1000000 in
theorem open_many (a : Option Addr) (c : Nat) (w : World) : Calls Tryz.prog 9 #[.slice a 4 c] w (OpE w 1) := by
  go_enter Tryz.func9, Tryz.ntmps9
  go_wp2
  go_ret2
  exact ⟨rfl, Below.refl _ _⟩
end Go.Proofs.YtepfniiojjefhaaGreatDoor
namespace Go.Proofs.YtepfniiojjefhaaGreatDoor
open Go.RowKit Go.Proofs

/-- A row that is written: its elements' type and size, its slice, how many, its cells. -/
structure MRow where
  e : TypeId
  k : Nat
  v : Value
  n : Nat
  xs : List Value
/-- The rows' blocks. -/
def mB (M : List MRow) : List Nat := M.filterMap (·.v.ownBlock)
/-- Blocks that are neither the box nor such a row. -/
def Av (b : Nat) (G : List Nat) (k : Nat) : Prop := k ≠ b ∧ k ∉ G
/-- All but the box and the rows is as it was; rows stay where they are or move to new memory. -/
structure Stp (b : Nat) (G : List Nat) (w : World) (G' : List Nat) (w' : World) : Prop where
  os : w'.os = w.os
  tape : w'.tape = w.tape
  output : w'.output = w.output
  size : w.heap.size ≤ w'.heap.size
  block : ∀ k, k < w.heap.size → Av b G k → w'.heap[k]? = w.heap[k]?
  row : ∀ k ∈ G', k ∈ G ∨ w.heap.size ≤ k
theorem Stp.of {b : Nat} {G : List Nat} {w w' : World} (h : Below w.heap.size w w') : Stp b G w G w' := ⟨h.os, h.tape, h.output, h.size, fun k hk _ => h.block k hk, fun _ h => .inl h⟩
theorem Stp.refl (b : Nat) (G : List Nat) (w : World) : Stp b G w G w := .of (Below.refl _ _)
theorem Stp.trans {b : Nat} {G G' G'' : List Nat} {x y z : World} (h : Stp b G x G' y) (k : Stp b G' y G'' z) : Stp b G x G'' z := by
  refine ⟨k.os.trans h.os, k.tape.trans h.tape, k.output.trans h.output, Nat.le_trans h.size k.size, fun i hi hA => ?_, fun i hi => ?_⟩
  · refine (k.block i (Nat.lt_of_lt_of_le hi h.size) ⟨hA.1, fun e => ?_⟩).trans (h.block i hi hA)
    rcases h.row i e with q | q
    · exact hA.2 q
    · omega
  · rcases k.row i hi with q | q
    · exact h.row i q
    · exact .inr (Nat.le_trans h.size q)
theorem Stp.below {b B : Nat} {G G' : List Nat} {w w' : World} (h : Stp b G w G' w') (hB : B ≤ b) (hw : B ≤ w.heap.size) (hG : ∀ k ∈ G, B ≤ k) : Below B w w' :=
  ⟨h.os, h.tape, h.output, h.size, fun k hk => h.block k (by omega) ⟨by omega, fun e => by have := hG k e; omega⟩⟩
theorem Stp.keeps {b : Nat} {G G' : List Nat} {w w' : World} (h : Stp b G w G' w') : Keeps (Av b G) w w' := ⟨h.size, h.block⟩
/-- A block that is read alone stays so. -/
theorem Stp.av {b : Nat} {G G' : List Nat} {w w' : World} (h : Stp b G w G' w') {k : Nat} (hk : k < w.heap.size) (hA : Av b G k) : Av b G' k :=
  ⟨hA.1, fun e => by rcases h.row k e with q | q; exact hA.2 q; omega⟩
theorem RowM.stp {A : Type} {b : Nat} {G G' : List Nat} {k : Nat} {P P' : A → List Value → Prop} {w w' : World} {v : Value} {l : List A} (h : RowM (Av b G) k P w v l) (hs : Stp b G w G' w') (hp : ∀ x cs, P x cs → P' x cs) : RowM (Av b G') k P' w' v l := by
  obtain ⟨a, c, hv, hm, hx⟩ := h
  refine ⟨a, c, hv, hm, fun i x hi => ?_⟩
  obtain ⟨g, o, cs, ha, hg, hQ, hl, hc, hP⟩ := hx i x hi
  exact ⟨g, o, cs, ha, Nat.lt_of_lt_of_le hg hs.size, hs.av hg hQ, hl, fun j u hj => (World.cell?_of_block (hs.block g hg hQ)).trans (hc j u hj), hp x cs hP⟩
theorem TxtsM.stp {b : Nat} {G G' : List Nat} {w w' : World} {v : Value} {l : List (List UInt8)} (h : TxtsM (Av b G) w v l) (hs : Stp b G w G' w') : TxtsM (Av b G') w' v l := RowM.stp h hs fun _ _ h => h
/-- The rows were made from a block on, each its own, apart from each other and from the box. -/
structure MOk (w : World) (B b : Nat) (M : List MRow) : Prop where
  own : ∀ r ∈ M, w.ownsRow B r.e r.k r.v r.n r.xs
  nd : (mB M).Nodup
  far : b ∉ mB M
  lt : b < w.heap.size
theorem mB_mem {M : List MRow} {k : Nat} (h : k ∈ mB M) : ∃ r ∈ M, r.v.ownBlock = some k := List.mem_filterMap.1 h
theorem MOk.rng {w : World} {B b : Nat} {M : List MRow} (h : MOk w B b M) : ∀ k ∈ mB M, B ≤ k ∧ k < w.heap.size := fun k hk => by
  obtain ⟨r, hr, e⟩ := mB_mem hk
  exact World.ownsRow.lt (h.own r hr) k e
theorem MOk.next {w w' : World} {B b : Nat} {M : List MRow} (h : MOk w B b M) (hb : Below w.heap.size w w') : MOk w' B b M := ⟨fun r hr => own_next (h.own r hr) hb, h.nd, h.far, Nat.lt_of_lt_of_le h.lt hb.size⟩
theorem MOk.box {w : World} {B b : Nat} {M : List MRow} (h : MOk w B b M) (j : Nat) (u : Value) : MOk (w.setCell ⟨b, j, none⟩ u) B b M := by
  refine ⟨fun r hr => ?_, h.nd, h.far, by have := h.lt; simpa [World.setCell] using this⟩
  obtain ⟨h1, h2⟩ := h.own r hr
  refine ⟨h1, h2.imp id ?_⟩
  rintro ⟨g, cap, cur, hv, hB, hg, hx⟩
  refine ⟨g, cap, cur, hv, hB, (Below.heap_setCell _ _ _ _ (show g ≠ b from fun e => h.far ?_)).trans hg, hx⟩
  exact List.mem_filterMap.2 ⟨r, hr, by rw [hv]; exact congrArg some e⟩
theorem own_kept {w w' : World} {row : Option Nat} {B e k : Nat} {v : Value} {n : Nat} {xs : List Value} (h : w.ownsRow B e k v n xs) (hg : w.grownBy w' row) (hne : ∀ g, v.ownBlock = some g → row ≠ some g) : w'.ownsRow B e k v n xs := by
  obtain ⟨h1, h2⟩ := h
  refine ⟨h1, h2.imp id ?_⟩
  rintro ⟨g, cap, cur, rfl, hB, hg', hr⟩
  exact ⟨g, cap, cur, rfl, hB, (hg.block g (Array.getElem?_eq_some_iff.1 hg').1 (fun e => hne g rfl e.symm)).trans hg', hr⟩
theorem mB_app (A Z : List MRow) : mB (A ++ Z) = mB A ++ mB Z := List.filterMap_append
theorem mB_cons (r : MRow) (Z : List MRow) : mB (r :: Z) = r.v.ownBlock.toList ++ mB Z := by
  unfold mB
  rw [List.filterMap_cons]
  cases r.v.ownBlock <;> rfl
/-- One row has grown: it stays where it is, or it is new. -/
theorem MOk.grow {w w' : World} {B b H : Nat} {A Z : List MRow} {r r' : MRow} (h : MOk w B b (A ++ r :: Z)) (hg : w.grownBy w' r.v.ownBlock) (ho : w'.ownsRow B r'.e r'.k r'.v r'.n r'.xs) (hH : w.heap.size ≤ H)
    (hat : ∀ g, r'.v.ownBlock = some g → r.v.ownBlock = some g ∨ H ≤ g) : MOk w' B b (A ++ r' :: Z) ∧ Stp b (mB (A ++ r :: Z)) w (mB (A ++ r' :: Z)) w' := by
  have hlt := h.rng
  have hd := h.nd
  have hf := h.far
  have hbl := h.lt
  rw [mB_app, mB_cons] at hd hlt hf
  have hd1 := List.nodup_append.1 hd
  have hd2 := List.nodup_append.1 hd1.2.1
  have hrA : ∀ g, r.v.ownBlock = some g → g ∉ mB A := fun g e hA => hd1.2.2 g hA g (by simp [e]) rfl
  have hrB : ∀ g, r.v.ownBlock = some g → g ∉ mB Z := fun g e hB => hd2.2.2 g (by simp [e]) g hB rfl
  have ho' : ∀ x ∈ A ++ Z, w'.ownsRow B x.e x.k x.v x.n x.xs := fun x hx => by
    refine own_kept (h.own x (by rcases List.mem_append.1 hx with q | q <;> simp [q])) hg fun g e e' => ?_
    have hm : g ∈ mB (A ++ Z) := List.mem_filterMap.2 ⟨x, hx, e⟩
    rw [mB_app] at hm
    rcases List.mem_append.1 hm with q | q
    · exact hrA g e' q
    · exact hrB g e' q
  have hnew : ∀ g, r'.v.ownBlock = some g → g ∉ mB A ∧ g ∉ mB Z := fun g e => by
    rcases hat g e with q | q
    · exact ⟨hrA g q, hrB g q⟩
    · exact ⟨fun hA => by have := hlt g (by simp [hA]); omega, fun hB => by have := hlt g (by simp [hB]); omega⟩
  refine ⟨⟨fun x hx => ?_, ?_, ?_, Nat.lt_of_lt_of_le hbl hg.size⟩, hg.os, hg.tape, hg.output, hg.size, fun k hk hA => hg.block k hk fun e => hA.2 ?_, fun k hk => ?_⟩
  · rcases List.mem_append.1 hx with q | q
    · exact ho' x (by simp [q])
    · rcases List.mem_cons.1 q with rfl | q
      · exact ho
      · exact ho' x (by simp [q])
  · rw [mB_app, mB_cons]
    refine List.nodup_append.2 ⟨hd1.1, List.nodup_append.2 ⟨by cases r'.v.ownBlock <;> simp, hd2.2.1, ?_⟩, ?_⟩
    · intro a ha c hc e
      subst e
      exact (hnew a (by simpa using ha)).2 hc
    · intro a ha c hc e
      subst e
      rcases List.mem_append.1 hc with q | q
      · exact (hnew a (by simpa using q)).1 ha
      · exact hd1.2.2 a ha a (by simp [q]) rfl
  · rw [mB_app, mB_cons]
    intro hc
    rcases List.mem_append.1 hc with q | q
    · exact hf (by simp [q])
    · rcases List.mem_append.1 q with q | q
      · have q : r'.v.ownBlock = some b := by simpa using q
        rcases hat b q with e | e
        · exact hf (by simp [e])
        · omega
      · exact hf (by simp [q])
  · rw [mB_app, mB_cons]
    simp [e]
  · rw [mB_app, mB_cons] at hk ⊢
    rcases List.mem_append.1 hk with q | q
    · exact .inl (by simp [q])
    · rcases List.mem_append.1 q with q | q
      · have q : r'.v.ownBlock = some k := by simpa using q
        rcases hat k q with e | e
        · exact .inl (by simp [e])
        · exact .inr (by omega)
      · exact .inl (by simp [q])
theorem Stp.box {b : Nat} {G G' : List Nat} {w w' : World} (h : Stp b G w G' w') (j : Nat) (u : Value) : Stp b G w G' (w'.setCell ⟨b, j, none⟩ u) :=
  ⟨h.os, h.tape, h.output, by have := h.size; simpa [World.setCell] using this, fun k hk hA => (Below.heap_setCell _ _ _ _ hA.1).trans (h.block k hk hA), h.row⟩
theorem own_one {A : Type} {B : Nat} {e : TypeId} {w : World} {v : Value} {l : List A} {f : A → Value} {Q : Nat → Prop} (h : w.ownsRow B e 1 v l.length (l.map f)) (hs : l.length ≤ maxLen) (hQ : ∀ g, v.ownBlock = some g → Q g) : RowM Q 1 (fun x cs => cs = [f x]) w v l := by
  rcases h.2 with ⟨rfl, h0⟩ | ⟨g, cap, cur, rfl, hB, hg, hnc, hcm, hcs, htk⟩
  · obtain rfl : l = [] := List.length_eq_zero_iff.1 h0
    exact rowM_nil _ _ _ _ _ _
  · refine ⟨some ⟨g, 0, none⟩, cap, rfl, hs, fun i x hx => ⟨g, 0, [f x], rfl, (Array.getElem?_eq_some_iff.1 hg).1, hQ g rfl, rfl, fun j u hj => ?_, rfl⟩⟩
    have hi : i < l.length := (List.getElem?_eq_some_iff.1 hx).1
    match j, hj with
    | 0, hj =>
      cases hj
      have h1 : cur.toList[i]? = some (f x) := by
        rw [← List.getElem?_take_of_lt (show i < l.length * 1 by omega), htk, List.getElem?_map, hx]; rfl
      simp only [World.cell?, hg, Nat.zero_add, Nat.mul_one, Nat.add_zero]
      simpa using h1
end Go.Proofs.YtepfniiojjefhaaGreatDoor
namespace Go.Proofs.YtepfniiojjefhaaGreatDoor
open Go.Proofs

section
variable {P : Program} {ops : Array Oper} {Q : Exit → Act → World → Prop} {md : Region.Mode} {T : World → Prop} {late : Nat → Bool}
def wpAnyL (P : Program) (md : Region.Mode) (ops : Array Oper) (Q : Exit → Act → World → Prop) (late : Nat → Bool) (T : World → Prop) : Nat → Array Bool → Act → World → Prop
  | 0, listed, a, w => Region.ready md ops listed = [] ∧ Q .normal a w
  | fuel + 1, listed, a, w =>
    (Region.ready md ops listed = [] → Q .normal a w) ∧
    ∀ i ∈ Region.ready md ops listed, wpOp P ops Q i (fun a' w' => (late i = false → T w → T w') ∧ wpAnyL P md ops Q late T fuel (listed.setIfInBounds i true) a' w') a w
theorem wpAny_of_late : ∀ (fuel : Nat) (listed : Array Bool) (a : Act) (w : World), wpAnyL P md ops Q late T fuel listed a w → wpAny P md ops Q fuel listed a w
  | 0, _, _, _, h => h
  | fuel + 1, _, _, _, h => ⟨h.1, fun i hi => wpOp_mono (fun a' w' h' => wpAny_of_late fuel _ a' w' h'.2) (h.2 i hi)⟩
/-- All late operations wait for number i. -/
def waits (md : Region.Mode) (ops : Array Oper) (late : Nat → Bool) (i : Nat) : Bool :=
  (List.range ops.size).all fun j => !late j || match ops[j]? with
    | some o => o.after.toList.any fun e => Region.binds md e && e.on == i
    | none => true
theorem waits_spec {i : Nat} (h : waits md ops late i = true) (j : Nat) (oj : Oper) (hj : ops[j]? = some oj) (hl : late j = true) : ∃ e ∈ oj.after, Region.binds md e = true ∧ e.on = i := by
  have hs : j < ops.size := (Array.getElem?_eq_some_iff.1 hj).1
  have := List.all_eq_true.1 h j (List.mem_range.2 hs)
  rw [hl, hj] at this
  simp only [Bool.not_true, Bool.false_or, List.any_eq_true, Bool.and_eq_true, beq_iff_eq] at this
  obtain ⟨e, he, h1, h2⟩ := this
  exact ⟨e, by simpa using he, h1, h2⟩
theorem wpAnyL_first {i : Nat} {oi : Oper} {v : Value} (hi : ops[i]? = some oi) (hsel : ∀ (j : Nat) (o : Oper) cs b, ops[j]? = some o → o.op ≠ .select cs b)
    (hQ : ∀ c a w, Q (.panic c) (a.put oi.dst v) w → Q (.panic c) a w) (hwt : waits md ops late i = true) :
    ∀ (fuel : Nat) (listed : Array Bool) (a : Act) (w : World),
      (∀ j oj, ops[j]? = some oj → j ≠ i → listed.getD j true = false → (∀ e ∈ oj.after, Region.binds md e = true → e.on ≠ i) → oi.apart ops oj = true) →
      i ∈ Region.ready md ops listed → YieldsIf P ops T oi v a → T w →
      wpAnyL P md ops Q late T fuel (listed.setIfInBounds i true) (a.put oi.dst v) w → wpAnyL P md ops Q late T (fuel + 1) listed a w := by
  intro fuel
  induction fuel with
  | zero =>
    intro listed a w _ hr hy hS H
    refine ⟨fun h => (by rw [h] at hr; cases hr), fun j hj => ?_⟩
    by_cases hji : j = i
    · subst hji; exact hy.wpOp hi hS ⟨fun _ h => h, H⟩
    · have := ready_mono hj hji
      rw [H.1] at this
      cases this
  | succ fuel ih =>
    intro listed a w hfree hr hy hS H
    refine ⟨fun h => (by rw [h] at hr; cases hr), fun j hj => ?_⟩
    by_cases hji : j = i
    · subst hji; exact hy.wpOp hi hS ⟨fun _ h => h, H⟩
    · have h1 := H.2 j (ready_mono hj hji)
      obtain ⟨hjun, oj, hoj, hall⟩ := mem_ready.1 hj
      have hnot : ∀ e ∈ oj.after, Region.binds md e = true → e.on ≠ i := fun e he hb heq => by
        have h1 := hall e he hb
        have h0 := (mem_ready.1 hr).1
        rw [heq] at h1
        rcases Nat.lt_or_ge i listed.size with h' | h'
        · simp [h'] at h0 h1; rw [h0] at h1; cases h1
        · simp [Array.getElem?_eq_none h'] at h1
      have hlt : late j = false := by
        cases hl : late j with
        | false => rfl
        | true => obtain ⟨e, he, hb, hon⟩ := waits_spec hwt j oj hoj hl; exact absurd hon (hnot e he hb)
      have h2 := wpOp_putIf hoj (hfree j oj hoj hji hjun hnot) (fun cs b => hsel i oi cs b hi) (fun cs b => hsel j oj cs b hoj) hQ hy h1
      have hfree' : ∀ k ok, ops[k]? = some ok → k ≠ i → (listed.setIfInBounds j true).getD k true = false →
          (∀ e ∈ ok.after, Region.binds md e = true → e.on ≠ i) → oi.apart ops ok = true := fun k ok hk hki hun hno => by
        refine hfree k ok hk hki ?_ hno
        by_cases hjk : j = k
        · subst hjk; exact hjun
        · rw [getD_set_ne true hjk] at hun; exact hun
      refine wpOp_mono (fun a' w' h3 => ⟨h3.2.1, ih (listed.setIfInBounds j true) a' w' hfree' (ready_mono hr (Ne.symm hji)) h3.1 (h3.2.1 hlt hS) ?_⟩) h2
      rw [Array.setIfInBounds_comm _ _ hji]
      exact h3.2.2
theorem wpAnyL_take {i : Nat} {oi : Oper} {v : Value} {fuel : Nat} {listed : Array Bool} {a : Act} {w : World} (hi : ops[i]? = some oi)
    (hs : Region.noSelect ops = true) (hf : Region.free md ops listed i = true) (hr : (Region.ready md ops listed).contains i = true) (hwt : waits md ops late i = true)
    (hQ : ∀ c a w, Q (.panic c) (a.put oi.dst v) w → Q (.panic c) a w) (hy : YieldsIf P ops T oi v a) (hS : T w)
    (h : wpAnyL P md ops Q late T fuel (listed.setIfInBounds i true) (a.put oi.dst v) w) : wpAnyL P md ops Q late T (fuel + 1) listed a w :=
  wpAnyL_first hi (Region.noSelect_spec hs) hQ hwt fuel listed a w (Region.free_spec hi hf) (by simpa using hr) hy hS h
theorem wpAnyL_fst {i : Nat} {oi : Oper} {v : Value} (hi : ops[i]? = some oi) (hsel : ∀ (j : Nat) (o : Oper) cs b, ops[j]? = some o → o.op ≠ .select cs b)
    (hQ : ∀ c a w, Q (.panic c) (a.put oi.dst v) w → Q (.panic c) a w) :
    ∀ (fuel : Nat) (listed : Array Bool) (a : Act) (w : World),
      (∀ j oj, ops[j]? = some oj → j ≠ i → listed.getD j true = false → (∀ e ∈ oj.after, Region.binds md e = true → e.on ≠ i) → oi.apart ops oj = true) →
      i ∈ Region.ready md ops listed → YieldsIf P ops (fun _ => True) oi v a →
      wpAnyL P md ops Q late T fuel (listed.setIfInBounds i true) (a.put oi.dst v) w → wpAnyL P md ops Q late T (fuel + 1) listed a w := by
  intro fuel
  induction fuel with
  | zero =>
    intro listed a w _ hr hy H
    refine ⟨fun h => (by rw [h] at hr; cases hr), fun j hj => ?_⟩
    by_cases hji : j = i
    · subst hji; exact hy.wpOp hi trivial ⟨fun _ h => h, H⟩
    · have := ready_mono hj hji
      rw [H.1] at this
      cases this
  | succ fuel ih =>
    intro listed a w hfree hr hy H
    refine ⟨fun h => (by rw [h] at hr; cases hr), fun j hj => ?_⟩
    by_cases hji : j = i
    · subst hji; exact hy.wpOp hi trivial ⟨fun _ h => h, H⟩
    · have h1 := H.2 j (ready_mono hj hji)
      obtain ⟨hjun, oj, hoj, hall⟩ := mem_ready.1 hj
      have hnot : ∀ e ∈ oj.after, Region.binds md e = true → e.on ≠ i := fun e he hb heq => by
        have h1 := hall e he hb
        have h0 := (mem_ready.1 hr).1
        rw [heq] at h1
        rcases Nat.lt_or_ge i listed.size with h' | h'
        · simp [h'] at h0 h1; rw [h0] at h1; cases h1
        · simp [Array.getElem?_eq_none h'] at h1
      have h2 := wpOp_putIf hoj (hfree j oj hoj hji hjun hnot) (fun cs b => hsel i oi cs b hi) (fun cs b => hsel j oj cs b hoj) hQ hy h1
      have hfree' : ∀ k ok, ops[k]? = some ok → k ≠ i → (listed.setIfInBounds j true).getD k true = false →
          (∀ e ∈ ok.after, Region.binds md e = true → e.on ≠ i) → oi.apart ops ok = true := fun k ok hk hki hun hno => by
        refine hfree k ok hk hki ?_ hno
        by_cases hjk : j = k
        · subst hjk; exact hjun
        · rw [getD_set_ne true hjk] at hun; exact hun
      refine wpOp_mono (fun a' w' h3 => ⟨h3.2.1, ih (listed.setIfInBounds j true) a' w' hfree' (ready_mono hr (Ne.symm hji)) h3.1 ?_⟩) h2
      rw [Array.setIfInBounds_comm _ _ hji]
      exact h3.2.2
/-- An operation that yields in whatever world may be taken first, whatever is late. -/
theorem wpAnyL_free {i : Nat} {oi : Oper} {v : Value} {fuel : Nat} {listed : Array Bool} {a : Act} {w : World} (hi : ops[i]? = some oi)
    (hs : Region.noSelect ops = true) (hf : Region.free md ops listed i = true) (hr : (Region.ready md ops listed).contains i = true)
    (hQ : ∀ c a w, Q (.panic c) (a.put oi.dst v) w → Q (.panic c) a w) (hy : YieldsIf P ops (fun _ => True) oi v a)
    (h : wpAnyL P md ops Q late T fuel (listed.setIfInBounds i true) (a.put oi.dst v) w) : wpAnyL P md ops Q late T (fuel + 1) listed a w :=
  wpAnyL_fst hi (Region.noSelect_spec hs) hQ fuel listed a w (Region.free_spec hi hf) (by simpa using hr) hy h
theorem wpAnyL_all {rs : List Nat} {fuel : Nat} {listed : Array Bool} {a : Act} {w : World} (hr : Region.ready md ops listed = rs) (hne : rs ≠ [])
    (h : ∀ i ∈ rs, wpOp P ops Q i (fun a' w' => (late i = false → T w → T w') ∧ wpAnyL P md ops Q late T fuel (listed.setIfInBounds i true) a' w') a w) : wpAnyL P md ops Q late T (fuel + 1) listed a w :=
  ⟨fun h0 => absurd (hr ▸ h0) hne, hr ▸ h⟩
theorem wpAnyL_done {listed : Array Bool} {a : Act} {w : World} (hr : Region.ready md ops listed = []) (h : Q .normal a w) :
    ∀ fuel, wpAnyL P md ops Q late T fuel listed a w
  | 0 => ⟨hr, h⟩
  | _ + 1 => ⟨fun _ => h, by rw [hr]; simp⟩
def AllL (P : Program) (md : Region.Mode) (ops : Array Oper) (Q : Exit → Act → World → Prop) (late : Nat → Bool) (T : World → Prop) (fuel : Nat) (listed : Array Bool) (a : Act) (w : World) (rs : List Nat) : Prop :=
  ∀ i ∈ rs, wpOp P ops Q i (fun a' w' => (late i = false → T w → T w') ∧ wpAnyL P md ops Q late T fuel (listed.setIfInBounds i true) a' w') a w
theorem allL_nil {fuel : Nat} {listed : Array Bool} {a : Act} {w : World} : AllL P md ops Q late T fuel listed a w [] := fun _ h => by cases h
theorem allL_cons {fuel : Nat} {listed : Array Bool} {a : Act} {w : World} {i : Nat} {o : Oper} {rs : List Nat} (ho : ops[i]? = some o)
    (h : ∀ K' : Act → World → Prop, Shut (∀ a' w', (late i = false → T w → T w') → wpAnyL P md ops Q late T fuel (listed.setIfInBounds i true) a' w' → K' a' w') → if Region.wanted o (yielded ops a.tmps) = true then Oper.wp P o a w K' Q else K' (a.put o.dst undef) w)
    (hs : AllL P md ops Q late T fuel listed a w rs) : AllL P md ops Q late T fuel listed a w (i :: rs) := fun j hj => by
  rcases List.mem_cons.1 hj with rfl | hj
  · exact wpOp_step ho (fun K' hK => h K' (fun a' w' hS hW => hK a' w' ⟨hS, hW⟩))
  · exact hs j hj
theorem wpAnyL_ready {rs : List Nat} {fuel : Nat} {listed : Array Bool} {a : Act} {w : World} (hr : Region.ready md ops listed = rs) (hne : rs ≠ [])
    (h : AllL P md ops Q late T fuel listed a w rs) : wpAnyL P md ops Q late T (fuel + 1) listed a w := wpAnyL_all hr hne h
/-- Behind the last operation that loads, the rest may be walked as a plain drawn one. -/
theorem wp_region_late {id : Nat} {a : Act} {w : World} (hm : P.follows .mixedOrders = true)
    (h : wpAnyL P .any ops Q late T ops.size (Array.replicate ops.size false) a w.drew) : (Code.region id ops true).wp P Q a w :=
  wp_region_any hm (wpAny_of_late _ _ _ _ h)
end
end Go.Proofs.YtepfniiojjefhaaGreatDoor
