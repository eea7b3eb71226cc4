/-
  What reads states of boxes: sizes, searches, and whether a box may be: the walks.
-/
import Derived.Test.YtkkkbggbeihbnaaDoorBoxMem
import Derived.Test.YtkkkbggbeihbnaaDoorRows
import Derived.Test.YtkkkbggbeihbnaaDoorRulNm
import Derived.WalkKit
import Derived.Shelf.Abstract
namespace Go.Proofs.YtkkkbggbeihbnaaDoor
open Go.RowKit Go.Proofs

def idxZ {A : Type} (p : A → Bool) (l : List A) : Int := match l.findIdx? p with
  | none => -1
  | some i => i
theorem idxZ_hit {A : Type} {p : A → Bool} {l : List A} {i : Nat} {x : A} (h : ∀ (j : Nat) y, j < i → l[j]? = some y → p y = false) (hx : l[i]? = some x) (hp : p x = true) : idxZ p l = i := by
  have hi : i < l.length := (List.getElem?_eq_some_iff.1 hx).1
  have : l.findIdx? p = some i := List.findIdx?_eq_some_iff_getElem.2 ⟨hi, by rw [(List.getElem?_eq_some_iff.1 hx).2]; exact hp, fun j hj => by rw [h j l[j] hj (List.getElem?_eq_getElem (by omega))]; simp⟩
  unfold idxZ; rw [this]
theorem idxZ_miss {A : Type} {p : A → Bool} {l : List A} (h : ∀ (j : Nat) y, j < l.length → l[j]? = some y → p y = false) : idxZ p l = -1 := by
  have : l.findIdx? p = none := List.findIdx?_eq_none_iff.2 fun x hx => by
    obtain ⟨j, hj, rfl⟩ := List.getElem_of_mem hx
    rw [h j _ hj (List.getElem?_eq_getElem hj)]
  unfold idxZ; rw [this]
theorem miss_more {A : Type} {p : A → Bool} {l : List A} {i : Nat} {x : A} (h : ∀ (j : Nat) y, j < i → l[j]? = some y → p y = false) (hx : l[i]? = some x) (hp : p x = false) : ∀ (j : Nat) y, j < i + 1 → l[j]? = some y → p y = false := by
  intro j y hj hy
  by_cases e : j = i
  · subst e; rw [hx] at hy; cases hy; exact hp
  · exact h j y (by omega) hy
theorem idxZ_none {A : Type} {p : A → Bool} {l : List A} (h : l.findIdx? p = none) : idxZ p l = -1 := by unfold idxZ; rw [h]
theorem idxZ_some {A : Type} {p : A → Bool} {l : List A} {i : Nat} (h : l.findIdx? p = some i) : idxZ p l = i := by unfold idxZ; rw [h]

set_option maxHeartbeats 1000000 in
set_option maxRecDepth 100000 in
theorem idxBx (l : List Bx) (p : Bx → Bool) (a : Option Addr) (c f : Nat) (cap : Array Value) (eg : ∀ args w, (callFunc f args).run Tryd.prog w = .ok (.enter f args) w) (w : World) (Q : Nat → Prop) (hL : BoxsM Q w (.slice a l.length c) l)
    (hf : ∀ b v u, Below w.heap.size w u → Calls Tryd.prog f (#[.agg #[.string (S b.name), .int .i64 b.next, v]] ++ cap) u fun e u' => e = .returned (.bool (p b)) ∧ Below u.heap.size u u') :
    Calls Tryd.prog 63 #[.slice a l.length c, .func (.func f) #[] cap] w fun e w' => e = .returned (.int .i64 (idxZ p l)) ∧ Below w.heap.size w w' := by
  have hm := RowM.small hL
  have HL := hid hL
  have HF := hid hf
  unfold maxLen at hm
  clear hL hf
  go_enter Tryd.func63, Tryd.ntmps63
  go_wp2
  go_loopw [8] (fun v wr => ∃ i : Nat, i ≤ l.length ∧ v = .int .i64 i ∧ Hid (Below w.heap.size w wr) ∧ Hid (∀ (j : Nat) y, j < i → l[j]? = some y → p y = false)) (fun v _ => l.length - (intOf v).toNat)
  case atStart => exact ⟨0, Nat.zero_le _, rfl, Below.refl _ _, fun j y h => by omega⟩
  case round =>
    obtain ⟨i, hi, rfl, HB, HI⟩ := hrel
    by_cases hlt : i < l.length
    · have i1 : (i : Int) < (l.length : Int) := by omega
      have i0 : (0 : Int) ≤ (i : Int) := by omega
      obtain ⟨x, hx⟩ : ∃ x, l[i]? = some x := ⟨_, List.getElem?_eq_getElem hlt⟩
      obtain ⟨b, o, v, rfl, _, e0, e1, e2, _⟩ := (HL.out.next HB.out).at hx
      have HC := hid (HF.out x v wr HB.out)
      have HX := hid hx
      clear hx
      cases hp : p x with
      | true =>
        have HE := hid (idxZ_hit HI.out HX.out hp)
        rw [hp] at HC
        clear hp
        go_wp2_with (go_at_fn f; refine Calls.mono HC.out ?_; rintro e u ⟨rfl, hb⟩)
        have HB2 := hid (HB.out.trans (hb.mono HB.out.size))
        go_ret
        exact ⟨ret_int HE.out.symm, HB2.out⟩
      | false =>
        have HE := hid (miss_more HI.out HX.out hp)
        rw [hp] at HC
        clear hp
        go_wp2_with (go_at_fn f; refine Calls.mono HC.out ?_; rintro e u ⟨rfl, hb⟩)
        have HB2 := hid (HB.out.trans (hb.mono HB.out.size))
        go_roundw
        case rel => first | exact ⟨i + 1, by omega, by go_num, HB2, HE⟩ | ((repeat apply Exists.intro); exact ⟨⟨i + 1, by omega, by go_num, HB2, HE⟩, rfl⟩) | (refine ⟨trivial, ?_⟩; (repeat apply Exists.intro); exact ⟨⟨i + 1, by omega, by go_num, HB2, HE⟩, rfl⟩)
        case measure => simp [intOf]; omega
    · have i1 : ¬ (i : Int) < (l.length : Int) := by omega
      have HE := hid (idxZ_miss fun (j : Nat) y hj => HI.out j y (by omega))
      go_wp2
      go_ret
      exact ⟨ret_int HE.out.symm, HB.out⟩
set_option maxHeartbeats 1000000 in
set_option maxRecDepth 100000 in
theorem idxMl (l : List Mail) (p : Mail → Bool) (a : Option Addr) (c f : Nat) (cap : Array Value) (eg : ∀ args w, (callFunc f args).run Tryd.prog w = .ok (.enter f args) w) (w : World) (Q : Nat → Prop) (hL : MailsM Q w (.slice a l.length c) l)
    (hf : ∀ (x : Mail) u, x ∈ l → Below w.heap.size w u → Calls Tryd.prog f (#[.agg #[.int .i64 x.uid, .int .i64 x.flags, .string (S x.text)]] ++ cap) u fun e u' => e = .returned (.bool (p x)) ∧ Below u.heap.size u u') :
    Calls Tryd.prog 65 #[.slice a l.length c, .func (.func f) #[] cap] w fun e w' => e = .returned (.int .i64 (idxZ p l)) ∧ Below w.heap.size w w' := by
  have hm := RowM.small hL
  have HL := hid hL
  have HF := hid hf
  unfold maxLen at hm
  clear hL hf
  go_enter Tryd.func65, Tryd.ntmps65
  go_wp2
  go_loopw [8] (fun v wr => ∃ i : Nat, i ≤ l.length ∧ v = .int .i64 i ∧ Hid (Below w.heap.size w wr) ∧ Hid (∀ (j : Nat) y, j < i → l[j]? = some y → p y = false)) (fun v _ => l.length - (intOf v).toNat)
  case atStart => exact ⟨0, Nat.zero_le _, rfl, Below.refl _ _, fun j y h => by omega⟩
  case round =>
    obtain ⟨i, hi, rfl, HB, HI⟩ := hrel
    by_cases hlt : i < l.length
    · have i1 : (i : Int) < (l.length : Int) := by omega
      have i0 : (0 : Int) ≤ (i : Int) := by omega
      obtain ⟨x, hx⟩ : ∃ x, l[i]? = some x := ⟨_, List.getElem?_eq_getElem hlt⟩
      obtain ⟨b, o, rfl, _, e0, e1, e2⟩ := (HL.out.next HB.out).at hx
      have HC := hid (HF.out x wr (List.mem_of_getElem? hx) HB.out)
      have HX := hid hx
      clear hx
      cases hp : p x with
      | true =>
        have HE := hid (idxZ_hit HI.out HX.out hp)
        rw [hp] at HC
        clear hp
        go_wp2_with (go_at_fn f; refine Calls.mono HC.out ?_; rintro e u ⟨rfl, hb⟩)
        have HB2 := hid (HB.out.trans (hb.mono HB.out.size))
        go_ret
        exact ⟨ret_int HE.out.symm, HB2.out⟩
      | false =>
        have HE := hid (miss_more HI.out HX.out hp)
        rw [hp] at HC
        clear hp
        go_wp2_with (go_at_fn f; refine Calls.mono HC.out ?_; rintro e u ⟨rfl, hb⟩)
        have HB2 := hid (HB.out.trans (hb.mono HB.out.size))
        go_roundw
        case rel => first | exact ⟨i + 1, by omega, by go_num, HB2, HE⟩ | ((repeat apply Exists.intro); exact ⟨⟨i + 1, by omega, by go_num, HB2, HE⟩, rfl⟩) | (refine ⟨trivial, ?_⟩; (repeat apply Exists.intro); exact ⟨⟨i + 1, by omega, by go_num, HB2, HE⟩, rfl⟩)
        case measure => simp [intOf]; omega
    · have i1 : ¬ (i : Int) < (l.length : Int) := by omega
      have HE := hid (idxZ_miss fun (j : Nat) y hj => HI.out j y (by omega))
      go_wp2
      go_ret
      exact ⟨ret_int HE.out.symm, HB.out⟩
set_option maxHeartbeats 1000000 in
set_option maxRecDepth 100000 in
theorem idxEn (l : List Ent) (p : Ent → Bool) (a : Option Addr) (c f : Nat) (cap : Array Value) (eg : ∀ args w, (callFunc f args).run Tryd.prog w = .ok (.enter f args) w) (w : World) (Q : Nat → Prop) (hL : EntsM Q w (.slice a l.length c) l)
    (hf : ∀ (x : Ent) u, x ∈ l → Below w.heap.size w u → Calls Tryd.prog f (#[.agg #[.int .i64 x.kind, .string (S x.box), .int .i64 x.uid, .int .i64 x.flags, .string (S x.goal), .string (S x.text)]] ++ cap) u fun e u' => e = .returned (.bool (p x)) ∧ Below u.heap.size u u') :
    Calls Tryd.prog 69 #[.slice a l.length c, .func (.func f) #[] cap] w fun e w' => e = .returned (.int .i64 (idxZ p l)) ∧ Below w.heap.size w w' := by
  have hm := RowM.small hL
  have HL := hid hL
  have HF := hid hf
  unfold maxLen at hm
  clear hL hf
  go_enter Tryd.func69, Tryd.ntmps69
  go_wp2
  go_loopw [8] (fun v wr => ∃ i : Nat, i ≤ l.length ∧ v = .int .i64 i ∧ Hid (Below w.heap.size w wr) ∧ Hid (∀ (j : Nat) y, j < i → l[j]? = some y → p y = false)) (fun v _ => l.length - (intOf v).toNat)
  case atStart => exact ⟨0, Nat.zero_le _, rfl, Below.refl _ _, fun j y h => by omega⟩
  case round =>
    obtain ⟨i, hi, rfl, HB, HI⟩ := hrel
    by_cases hlt : i < l.length
    · have i1 : (i : Int) < (l.length : Int) := by omega
      have i0 : (0 : Int) ≤ (i : Int) := by omega
      obtain ⟨x, hx⟩ : ∃ x, l[i]? = some x := ⟨_, List.getElem?_eq_getElem hlt⟩
      obtain ⟨b, o, rfl, _, e0, e1, e2, e3, e4, e5⟩ := (HL.out.next HB.out).at hx
      have HC := hid (HF.out x wr (List.mem_of_getElem? hx) HB.out)
      have HX := hid hx
      clear hx
      cases hp : p x with
      | true =>
        have HE := hid (idxZ_hit HI.out HX.out hp)
        rw [hp] at HC
        clear hp
        go_wp2_with (go_at_fn f; refine Calls.mono HC.out ?_; rintro e u ⟨rfl, hb⟩)
        have HB2 := hid (HB.out.trans (hb.mono HB.out.size))
        go_ret
        exact ⟨ret_int HE.out.symm, HB2.out⟩
      | false =>
        have HE := hid (miss_more HI.out HX.out hp)
        rw [hp] at HC
        clear hp
        go_wp2_with (go_at_fn f; refine Calls.mono HC.out ?_; rintro e u ⟨rfl, hb⟩)
        have HB2 := hid (HB.out.trans (hb.mono HB.out.size))
        go_roundw
        case rel => first | exact ⟨i + 1, by omega, by go_num, HB2, HE⟩ | ((repeat apply Exists.intro); exact ⟨⟨i + 1, by omega, by go_num, HB2, HE⟩, rfl⟩) | (refine ⟨trivial, ?_⟩; (repeat apply Exists.intro); exact ⟨⟨i + 1, by omega, by go_num, HB2, HE⟩, rfl⟩)
        case measure => simp [intOf]; omega
    · have i1 : ¬ (i : Int) < (l.length : Int) := by omega
      have HE := hid (idxZ_miss fun (j : Nat) y hj => HI.out j y (by omega))
      go_wp2
      go_ret
      exact ⟨ret_int HE.out.symm, HB.out⟩

/- The closures. -/
theorem S_same (a b : List UInt8) : ((S a).toList == (S b).toList) = decide (a = b) := by
  rw [Lib.toList_data, Lib.toList_data, list_S, list_S]
  by_cases h : a = b
  · subst h; simp
  · simp [h]
set_option maxHeartbeats 1000000 in
theorem isName_any (s n : List UInt8) (z : Int) (v : Value) (B : Nat) (w : World) (hc : w.cell? ⟨B, 0, none⟩ = some (.string (S s))) :
    Calls Tryd.prog 64 #[.agg #[.string (S n), .int .i64 z, v], .pointer (some ⟨B, 0, none⟩)] w fun e w' => e = .returned (.bool (decide (n = s))) ∧ Below w.heap.size w w' := by
  have HS := hid (S_same n s)
  have hc2 := wcell_more hc (.cells #[.string (S n), .int .i64 z, v] 65)
  have HB := hid (show Below w.heap.size w (w.alloc (.cells #[.string (S n), .int .i64 z, v] 65)) from (Below.refl _ _).alloc (Nat.le_refl _) _)
  go_enter Tryd.func64, Tryd.ntmps64
  go_wp2
  go_ret
  exact ⟨ret_bool (by rw [← HS.out]), HB.out⟩
set_option maxHeartbeats 1000000 in
theorem isUid_any (u z f : Int) (t : List UInt8) (B : Nat) (w : World) (hc : w.cell? ⟨B, 0, none⟩ = some (.int .i64 u)) :
    Calls Tryd.prog 66 #[.agg #[.int .i64 z, .int .i64 f, .string (S t)], .pointer (some ⟨B, 0, none⟩)] w fun e w' => e = .returned (.bool (decide (z = u))) ∧ Below w.heap.size w w' := by
  have hc2 := wcell_more hc (.cells #[.int .i64 z, .int .i64 f, .string (S t)] 73)
  have HB := hid (show Below w.heap.size w (w.alloc (.cells #[.int .i64 z, .int .i64 f, .string (S t)] 73)) from (Below.refl _ _).alloc (Nat.le_refl _) _)
  go_enter Tryd.func66, Tryd.ntmps66
  go_wp2
  go_ret
  exact ⟨ret_bool (by first | rfl | simp), HB.out⟩
set_option maxHeartbeats 1000000 in
set_option maxRecDepth 100000 in
theorem indexOfBox_any (l : List Bx) (s : List UInt8) (a : Option Addr) (c : Nat) (w : World) (Q : Nat → Prop) (hL : BoxsM Q w (.slice a l.length c) l) :
    Calls Tryd.prog 46 #[.slice a l.length c, .string (S s)] w fun e w' => e = .returned (.int .i64 (idxZ (isName s) l)) ∧ Below w.heap.size w w' := by
  have hmf : ∀ (fn : Fn) (first cap : Array Value) (w : World), (Instr.makeFunc fn first cap).run Tryd.prog w = .ok (.func fn first cap) w := fun _ _ _ _ => rfl
  have eg : ∀ args w, (callFunc 64 args).run Tryd.prog w = .ok (.enter 64 args) w := enters_of Tryd.func64 (by kernel_rfl) rfl
  have hB1 : Below w.heap.size w (w.alloc (.cells #[.string (S s)] 9)) := (Below.refl _ _).alloc (Nat.le_refl _) _
  have hcell : (w.alloc (.cells #[.string (S s)] 9)).cell? ⟨w.heap.size, 0, none⟩ = some (.string (S s)) := by simp
  have HC := hid (idxBx l (isName s) a c 64 #[.pointer (some ⟨w.heap.size, 0, none⟩)] eg (w.alloc (.cells #[.string (S s)] 9)) Q (hL.next hB1)
    (fun b v u hu => isName_any s b.name b.next v w.heap.size u (wcell_next hcell hu)))
  have HB1 := hid hB1
  clear hL hB1 hcell
  go_enter Tryd.func46, Tryd.ntmps46
  go_wp2_with fail
  refine HC.out.mono ?_
  rintro e w2 ⟨rfl, hb⟩
  have HB2 := hid (HB1.out.trans (hb.mono HB1.out.size))
  clear hb
  simp only
  go_wp2
  go_ret
  exact ⟨rfl, HB2.out⟩
set_option maxHeartbeats 1000000 in
set_option maxRecDepth 100000 in
theorem indexOfMail_any (l : List Mail) (u : Int) (a : Option Addr) (c : Nat) (w : World) (Q : Nat → Prop) (hL : MailsM Q w (.slice a l.length c) l) :
    Calls Tryd.prog 50 #[.slice a l.length c, .int .i64 u] w fun e w' => e = .returned (.int .i64 (idxZ (isUid u) l)) ∧ Below w.heap.size w w' := by
  have hmf : ∀ (fn : Fn) (first cap : Array Value) (w : World), (Instr.makeFunc fn first cap).run Tryd.prog w = .ok (.func fn first cap) w := fun _ _ _ _ => rfl
  have eg : ∀ args w, (callFunc 66 args).run Tryd.prog w = .ok (.enter 66 args) w := enters_of Tryd.func66 (by kernel_rfl) rfl
  have hB1 : Below w.heap.size w (w.alloc (.cells #[.int .i64 u] 3)) := (Below.refl _ _).alloc (Nat.le_refl _) _
  have hcell : (w.alloc (.cells #[.int .i64 u] 3)).cell? ⟨w.heap.size, 0, none⟩ = some (.int .i64 u) := by simp
  have HC := hid (idxMl l (isUid u) a c 66 #[.pointer (some ⟨w.heap.size, 0, none⟩)] eg (w.alloc (.cells #[.int .i64 u] 3)) Q (hL.next hB1)
    (fun x u' _ hu => isUid_any u x.uid x.flags x.text w.heap.size u' (wcell_next hcell hu)))
  have HB1 := hid hB1
  clear hL hB1 hcell
  go_enter Tryd.func50, Tryd.ntmps50
  go_wp2_with fail
  refine HC.out.mono ?_
  rintro e w2 ⟨rfl, hb⟩
  have HB2 := hid (HB1.out.trans (hb.mono HB1.out.size))
  clear hb
  simp only
  go_wp2
  go_ret
  exact ⟨rfl, HB2.out⟩
end Go.Proofs.YtkkkbggbeihbnaaDoor
