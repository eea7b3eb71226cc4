/-
  What the library's search by a function does, whatever the function: the walks.
-/
import Derived.Test.YtkciflocpelhiaaGreatDoorScrMem
import Derived.Test.YtkciflocpelhiaaGreatDoorRows
import Derived.WalkKit
import Derived.Shelf.Abstract
namespace Go.Proofs.YtkciflocpelhiaaGreatDoor
open Go.RowKit Go.Proofs

theorem any_step {A : Type} {l : List A} {i : Nat} {x : A} (p : A → Bool) (h : l[i]? = some x) : (l.drop i).any p = (p x || (l.drop (i + 1)).any p) := by
  have hi : i < l.length := (List.getElem?_eq_some_iff.1 h).1
  have e : l[i] = x := (List.getElem?_eq_some_iff.1 h).2
  rw [List.drop_eq_getElem_cons hi, e]; rfl

set_option maxHeartbeats 4000000 in
set_option maxRecDepth 100000 in
theorem idxS {A : Type} (l : List A) (p : A → Bool) (V0 : A → Value) (a : Option Addr) (c f : Nat) (cap : Array Value) (eg : ∀ args w, (callFunc f args).run Tryz.prog w = .ok (.enter f args) w) (w : World) (hm : l.length ≤ maxLen)
    (hL : ∀ (i : Nat) (x : A), l[i]? = some x → ∀ u, Below w.heap.size w u → ∃ b o, a = some ⟨b, o, none⟩ ∧ u.cell? ⟨b, o + i, none⟩ = some (V0 x))
    (hf : ∀ (i : Nat) (x : A), l[i]? = some x → ∀ u, Below w.heap.size w u → Calls Tryz.prog f (#[V0 x] ++ cap) u fun e u' => e = .returned (.bool (p x)) ∧ Below u.heap.size u u') :
    Calls Tryz.prog 62 #[.slice a l.length c, .func (.func f) #[] cap] w fun e w' => (∃ z : Int, e = .returned (.int .i64 z) ∧ decide (0 ≤ z) = l.any p) ∧ Below w.heap.size w w' := by
  have HL := hid hL
  have HF := hid hf
  unfold maxLen at hm
  have HN : Hid (l.any p = (l.drop 0).any p) := rfl
  clear hL hf
  go_enter Tryz.func62, Tryz.ntmps62
  go_wp2
  go_loopw [8] (fun v wr => ∃ i : Nat, i ≤ l.length ∧ v = .int .i64 i ∧ Hid (Below w.heap.size w wr) ∧ Hid (l.any p = (l.drop i).any p)) (fun v _ => l.length - (intOf v).toNat)
  case atStart => exact ⟨0, Nat.zero_le _, rfl, Below.refl _ _, HN⟩
  case round =>
    obtain ⟨i, hi, rfl, HB, HI⟩ := hrel
    by_cases hlt : i < l.length
    · have i1 : (i : Int) < (l.length : Int) := by omega
      have i0 : (0 : Int) ≤ (i : Int) := by omega
      obtain ⟨x, hx⟩ : ∃ x, l[i]? = some x := ⟨_, List.getElem?_eq_getElem hlt⟩
      have HS := hid (any_step p hx)
      have HC := hid (HF.out i x hx wr HB.out)
      obtain ⟨b, o, rfl, e0⟩ := HL.out i x hx wr HB.out
      clear hx
      cases hp : p x with
      | true =>
        have HE := hid (show l.any p = true by rw [HI.out, HS.out, hp]; rfl)
        rw [hp] at HC
        clear hp
        go_wp2_with (go_at_fn f; refine Calls.mono HC.out ?_; rintro e u ⟨rfl, hb⟩)
        have HB2 := hid (HB.out.trans (hb.mono HB.out.size))
        go_ret
        exact ⟨⟨_, rfl, by rw [HE.out]; simp⟩, HB2.out⟩
      | false =>
        have HE := hid (show l.any p = (l.drop (i + 1)).any p by rw [HI.out, HS.out, hp]; rfl)
        rw [hp] at HC
        clear hp
        go_wp2_with (go_at_fn f; refine Calls.mono HC.out ?_; rintro e u ⟨rfl, hb⟩)
        have HB2 := hid (HB.out.trans (hb.mono HB.out.size))
        go_roundw
        case rel => first | exact ⟨i + 1, by omega, by go_num, HB2, HE⟩ | ((repeat apply Exists.intro); exact ⟨⟨i + 1, by omega, by go_num, HB2, HE⟩, rfl⟩) | (refine ⟨trivial, ?_⟩; (repeat apply Exists.intro); exact ⟨⟨i + 1, by omega, by go_num, HB2, HE⟩, rfl⟩)
        case measure => simp [intOf]; omega
    · have i1 : ¬ (i : Int) < (l.length : Int) := by omega
      have HE := hid (show l.any p = false by rw [HI.out, List.drop_eq_nil_of_le (by omega)]; rfl)
      go_wp2
      go_ret
      exact ⟨⟨_, rfl, by rw [HE.out]; rfl⟩, HB.out⟩
set_option maxHeartbeats 4000000 in
set_option maxRecDepth 100000 in
theorem conS {A : Type} (l : List A) (p : A → Bool) (V0 : A → Value) (a : Option Addr) (c f : Nat) (cap : Array Value) (eg : ∀ args w, (callFunc f args).run Tryz.prog w = .ok (.enter f args) w) (w : World) (hm : l.length ≤ maxLen)
    (hL : ∀ (i : Nat) (x : A), l[i]? = some x → ∀ u, Below w.heap.size w u → ∃ b o, a = some ⟨b, o, none⟩ ∧ u.cell? ⟨b, o + i, none⟩ = some (V0 x))
    (hf : ∀ (i : Nat) (x : A), l[i]? = some x → ∀ u, Below w.heap.size w u → Calls Tryz.prog f (#[V0 x] ++ cap) u fun e u' => e = .returned (.bool (p x)) ∧ Below u.heap.size u u') :
    Calls Tryz.prog 35 #[.slice a l.length c, .func (.func f) #[] cap] w fun e w' => e = .returned (.bool (l.any p)) ∧ Below w.heap.size w w' := by
  have HI := hid (idxS l p V0 a c f cap eg w hm hL hf)
  obtain ⟨q, hq⟩ : ∃ q, q = l.any p := ⟨_, rfl⟩
  rw [← hq] at HI
  rw [← hq]
  clear hL hf hq
  go_enter Tryz.func35, Tryz.ntmps35
  go_wp2_with fail
  refine HI.out.mono ?_
  rintro e w1 ⟨⟨z, rfl, hz⟩, hb⟩
  simp only
  have HZ := hid hz
  have HB := hid hb
  clear hz hb
  go_wp2
  go_ret
  exact ⟨ret_bool HZ.out, HB.out⟩

set_option maxHeartbeats 4000000 in
set_option maxRecDepth 100000 in
theorem idxF {A : Type} (l : List A) (p : A → Bool) (V0 V1 : A → Value) (a : Option Addr) (c f : Nat) (cap : Array Value) (eg : ∀ args w, (callFunc f args).run Tryz.prog w = .ok (.enter f args) w) (w : World) (hm : l.length ≤ maxLen)
    (hL : ∀ (i : Nat) (x : A), l[i]? = some x → ∀ u, Below w.heap.size w u → ∃ b o, a = some ⟨b, o, none⟩ ∧ u.cell? ⟨b, o + i * 2, none⟩ = some (V0 x) ∧ u.cell? ⟨b, o + i * 2 + 1, none⟩ = some (V1 x))
    (hf : ∀ (i : Nat) (x : A), l[i]? = some x → ∀ u, Below w.heap.size w u → Calls Tryz.prog f (#[.agg #[V0 x, V1 x]] ++ cap) u fun e u' => e = .returned (.bool (p x)) ∧ Below u.heap.size u u') :
    Calls Tryz.prog 79 #[.slice a l.length c, .func (.func f) #[] cap] w fun e w' => (∃ z : Int, e = .returned (.int .i64 z) ∧ decide (0 ≤ z) = l.any p) ∧ Below w.heap.size w w' := by
  have HL := hid hL
  have HF := hid hf
  unfold maxLen at hm
  have HN : Hid (l.any p = (l.drop 0).any p) := rfl
  clear hL hf
  go_enter Tryz.func79, Tryz.ntmps79
  go_wp2
  go_loopw [8] (fun v wr => ∃ i : Nat, i ≤ l.length ∧ v = .int .i64 i ∧ Hid (Below w.heap.size w wr) ∧ Hid (l.any p = (l.drop i).any p)) (fun v _ => l.length - (intOf v).toNat)
  case atStart => exact ⟨0, Nat.zero_le _, rfl, Below.refl _ _, HN⟩
  case round =>
    obtain ⟨i, hi, rfl, HB, HI⟩ := hrel
    by_cases hlt : i < l.length
    · have i1 : (i : Int) < (l.length : Int) := by omega
      have i0 : (0 : Int) ≤ (i : Int) := by omega
      obtain ⟨x, hx⟩ : ∃ x, l[i]? = some x := ⟨_, List.getElem?_eq_getElem hlt⟩
      have HS := hid (any_step p hx)
      have HC := hid (HF.out i x hx wr HB.out)
      obtain ⟨b, o, rfl, e0, e1⟩ := HL.out i x hx wr HB.out
      clear hx
      cases hp : p x with
      | true =>
        have HE := hid (show l.any p = true by rw [HI.out, HS.out, hp]; rfl)
        rw [hp] at HC
        clear hp
        go_wp2_with (go_at_fn f; refine Calls.mono HC.out ?_; rintro e u ⟨rfl, hb⟩)
        have HB2 := hid (HB.out.trans (hb.mono HB.out.size))
        go_ret
        exact ⟨⟨_, rfl, by rw [HE.out]; simp⟩, HB2.out⟩
      | false =>
        have HE := hid (show l.any p = (l.drop (i + 1)).any p by rw [HI.out, HS.out, hp]; rfl)
        rw [hp] at HC
        clear hp
        go_wp2_with (go_at_fn f; refine Calls.mono HC.out ?_; rintro e u ⟨rfl, hb⟩)
        have HB2 := hid (HB.out.trans (hb.mono HB.out.size))
        go_roundw
        case rel => first | exact ⟨i + 1, by omega, by go_num, HB2, HE⟩ | ((repeat apply Exists.intro); exact ⟨⟨i + 1, by omega, by go_num, HB2, HE⟩, rfl⟩) | (refine ⟨trivial, ?_⟩; (repeat apply Exists.intro); exact ⟨⟨i + 1, by omega, by go_num, HB2, HE⟩, rfl⟩)
        case measure => simp [intOf]; omega
    · have i1 : ¬ (i : Int) < (l.length : Int) := by omega
      have HE := hid (show l.any p = false by rw [HI.out, List.drop_eq_nil_of_le (by omega)]; rfl)
      go_wp2
      go_ret
      exact ⟨⟨_, rfl, by rw [HE.out]; rfl⟩, HB.out⟩
set_option maxHeartbeats 4000000 in
set_option maxRecDepth 100000 in
theorem conF {A : Type} (l : List A) (p : A → Bool) (V0 V1 : A → Value) (a : Option Addr) (c f : Nat) (cap : Array Value) (eg : ∀ args w, (callFunc f args).run Tryz.prog w = .ok (.enter f args) w) (w : World) (hm : l.length ≤ maxLen)
    (hL : ∀ (i : Nat) (x : A), l[i]? = some x → ∀ u, Below w.heap.size w u → ∃ b o, a = some ⟨b, o, none⟩ ∧ u.cell? ⟨b, o + i * 2, none⟩ = some (V0 x) ∧ u.cell? ⟨b, o + i * 2 + 1, none⟩ = some (V1 x))
    (hf : ∀ (i : Nat) (x : A), l[i]? = some x → ∀ u, Below w.heap.size w u → Calls Tryz.prog f (#[.agg #[V0 x, V1 x]] ++ cap) u fun e u' => e = .returned (.bool (p x)) ∧ Below u.heap.size u u') :
    Calls Tryz.prog 53 #[.slice a l.length c, .func (.func f) #[] cap] w fun e w' => e = .returned (.bool (l.any p)) ∧ Below w.heap.size w w' := by
  have HI := hid (idxF l p V0 V1 a c f cap eg w hm hL hf)
  obtain ⟨q, hq⟩ : ∃ q, q = l.any p := ⟨_, rfl⟩
  rw [← hq] at HI
  rw [← hq]
  clear hL hf hq
  go_enter Tryz.func53, Tryz.ntmps53
  go_wp2_with fail
  refine HI.out.mono ?_
  rintro e w1 ⟨⟨z, rfl, hz⟩, hb⟩
  simp only
  have HZ := hid hz
  have HB := hid hb
  clear hz hb
  go_wp2
  go_ret
  exact ⟨ret_bool HZ.out, HB.out⟩

set_option maxHeartbeats 4000000 in
set_option maxRecDepth 100000 in
theorem idxD {A : Type} (l : List A) (p : A → Bool) (V0 V1 : A → Value) (a : Option Addr) (c f : Nat) (cap : Array Value) (eg : ∀ args w, (callFunc f args).run Tryz.prog w = .ok (.enter f args) w) (w : World) (hm : l.length ≤ maxLen)
    (hL : ∀ (i : Nat) (x : A), l[i]? = some x → ∀ u, Below w.heap.size w u → ∃ b o, a = some ⟨b, o, none⟩ ∧ u.cell? ⟨b, o + i * 2, none⟩ = some (V0 x) ∧ u.cell? ⟨b, o + i * 2 + 1, none⟩ = some (V1 x))
    (hf : ∀ (i : Nat) (x : A), l[i]? = some x → ∀ u, Below w.heap.size w u → Calls Tryz.prog f (#[.agg #[V0 x, V1 x]] ++ cap) u fun e u' => e = .returned (.bool (p x)) ∧ Below u.heap.size u u') :
    Calls Tryz.prog 84 #[.slice a l.length c, .func (.func f) #[] cap] w fun e w' => (∃ z : Int, e = .returned (.int .i64 z) ∧ decide (0 ≤ z) = l.any p) ∧ Below w.heap.size w w' := by
  have HL := hid hL
  have HF := hid hf
  unfold maxLen at hm
  have HN : Hid (l.any p = (l.drop 0).any p) := rfl
  clear hL hf
  go_enter Tryz.func84, Tryz.ntmps84
  go_wp2
  go_loopw [8] (fun v wr => ∃ i : Nat, i ≤ l.length ∧ v = .int .i64 i ∧ Hid (Below w.heap.size w wr) ∧ Hid (l.any p = (l.drop i).any p)) (fun v _ => l.length - (intOf v).toNat)
  case atStart => exact ⟨0, Nat.zero_le _, rfl, Below.refl _ _, HN⟩
  case round =>
    obtain ⟨i, hi, rfl, HB, HI⟩ := hrel
    by_cases hlt : i < l.length
    · have i1 : (i : Int) < (l.length : Int) := by omega
      have i0 : (0 : Int) ≤ (i : Int) := by omega
      obtain ⟨x, hx⟩ : ∃ x, l[i]? = some x := ⟨_, List.getElem?_eq_getElem hlt⟩
      have HS := hid (any_step p hx)
      have HC := hid (HF.out i x hx wr HB.out)
      obtain ⟨b, o, rfl, e0, e1⟩ := HL.out i x hx wr HB.out
      clear hx
      cases hp : p x with
      | true =>
        have HE := hid (show l.any p = true by rw [HI.out, HS.out, hp]; rfl)
        rw [hp] at HC
        clear hp
        go_wp2_with (go_at_fn f; refine Calls.mono HC.out ?_; rintro e u ⟨rfl, hb⟩)
        have HB2 := hid (HB.out.trans (hb.mono HB.out.size))
        go_ret
        exact ⟨⟨_, rfl, by rw [HE.out]; simp⟩, HB2.out⟩
      | false =>
        have HE := hid (show l.any p = (l.drop (i + 1)).any p by rw [HI.out, HS.out, hp]; rfl)
        rw [hp] at HC
        clear hp
        go_wp2_with (go_at_fn f; refine Calls.mono HC.out ?_; rintro e u ⟨rfl, hb⟩)
        have HB2 := hid (HB.out.trans (hb.mono HB.out.size))
        go_roundw
        case rel => first | exact ⟨i + 1, by omega, by go_num, HB2, HE⟩ | ((repeat apply Exists.intro); exact ⟨⟨i + 1, by omega, by go_num, HB2, HE⟩, rfl⟩) | (refine ⟨trivial, ?_⟩; (repeat apply Exists.intro); exact ⟨⟨i + 1, by omega, by go_num, HB2, HE⟩, rfl⟩)
        case measure => simp [intOf]; omega
    · have i1 : ¬ (i : Int) < (l.length : Int) := by omega
      have HE := hid (show l.any p = false by rw [HI.out, List.drop_eq_nil_of_le (by omega)]; rfl)
      go_wp2
      go_ret
      exact ⟨⟨_, rfl, by rw [HE.out]; rfl⟩, HB.out⟩
set_option maxHeartbeats 4000000 in
set_option maxRecDepth 100000 in
theorem conD {A : Type} (l : List A) (p : A → Bool) (V0 V1 : A → Value) (a : Option Addr) (c f : Nat) (cap : Array Value) (eg : ∀ args w, (callFunc f args).run Tryz.prog w = .ok (.enter f args) w) (w : World) (hm : l.length ≤ maxLen)
    (hL : ∀ (i : Nat) (x : A), l[i]? = some x → ∀ u, Below w.heap.size w u → ∃ b o, a = some ⟨b, o, none⟩ ∧ u.cell? ⟨b, o + i * 2, none⟩ = some (V0 x) ∧ u.cell? ⟨b, o + i * 2 + 1, none⟩ = some (V1 x))
    (hf : ∀ (i : Nat) (x : A), l[i]? = some x → ∀ u, Below w.heap.size w u → Calls Tryz.prog f (#[.agg #[V0 x, V1 x]] ++ cap) u fun e u' => e = .returned (.bool (p x)) ∧ Below u.heap.size u u') :
    Calls Tryz.prog 60 #[.slice a l.length c, .func (.func f) #[] cap] w fun e w' => e = .returned (.bool (l.any p)) ∧ Below w.heap.size w w' := by
  have HI := hid (idxD l p V0 V1 a c f cap eg w hm hL hf)
  obtain ⟨q, hq⟩ : ∃ q, q = l.any p := ⟨_, rfl⟩
  rw [← hq] at HI
  rw [← hq]
  clear hL hf hq
  go_enter Tryz.func60, Tryz.ntmps60
  go_wp2_with fail
  refine HI.out.mono ?_
  rintro e w1 ⟨⟨z, rfl, hz⟩, hb⟩
  simp only
  have HZ := hid hz
  have HB := hid hb
  clear hz hb
  go_wp2
  go_ret
  exact ⟨ret_bool HZ.out, HB.out⟩

set_option maxHeartbeats 4000000 in
set_option maxRecDepth 100000 in
theorem idxT {A : Type} (l : List A) (p : A → Bool) (V0 V1 V2 V3 V4 V5 V6 V7 : A → Value) (a : Option Addr) (c f : Nat) (cap : Array Value) (eg : ∀ args w, (callFunc f args).run Tryz.prog w = .ok (.enter f args) w) (w : World) (hm : l.length ≤ maxLen)
    (hL : ∀ (i : Nat) (x : A), l[i]? = some x → ∀ u, Below w.heap.size w u → ∃ b o, a = some ⟨b, o, none⟩ ∧ u.cell? ⟨b, o + i * 8, none⟩ = some (V0 x) ∧ u.cell? ⟨b, o + i * 8 + 1, none⟩ = some (V1 x) ∧ u.cell? ⟨b, o + i * 8 + 2, none⟩ = some (V2 x) ∧ u.cell? ⟨b, o + i * 8 + 3, none⟩ = some (V3 x) ∧ u.cell? ⟨b, o + i * 8 + 4, none⟩ = some (V4 x) ∧ u.cell? ⟨b, o + i * 8 + 5, none⟩ = some (V5 x) ∧ u.cell? ⟨b, o + i * 8 + 6, none⟩ = some (V6 x) ∧ u.cell? ⟨b, o + i * 8 + 7, none⟩ = some (V7 x))
    (hf : ∀ (i : Nat) (x : A), l[i]? = some x → ∀ u, Below w.heap.size w u → Calls Tryz.prog f (#[.agg #[V0 x, V1 x, V2 x, V3 x, V4 x, V5 x, V6 x, V7 x]] ++ cap) u fun e u' => e = .returned (.bool (p x)) ∧ Below u.heap.size u u') :
    Calls Tryz.prog 52 #[.slice a l.length c, .func (.func f) #[] cap] w fun e w' => (∃ z : Int, e = .returned (.int .i64 z) ∧ decide (0 ≤ z) = l.any p) ∧ Below w.heap.size w w' := by
  have HL := hid hL
  have HF := hid hf
  unfold maxLen at hm
  have HN : Hid (l.any p = (l.drop 0).any p) := rfl
  clear hL hf
  go_enter Tryz.func52, Tryz.ntmps52
  go_wp2
  go_loopw [8] (fun v wr => ∃ i : Nat, i ≤ l.length ∧ v = .int .i64 i ∧ Hid (Below w.heap.size w wr) ∧ Hid (l.any p = (l.drop i).any p)) (fun v _ => l.length - (intOf v).toNat)
  case atStart => exact ⟨0, Nat.zero_le _, rfl, Below.refl _ _, HN⟩
  case round =>
    obtain ⟨i, hi, rfl, HB, HI⟩ := hrel
    by_cases hlt : i < l.length
    · have i1 : (i : Int) < (l.length : Int) := by omega
      have i0 : (0 : Int) ≤ (i : Int) := by omega
      obtain ⟨x, hx⟩ : ∃ x, l[i]? = some x := ⟨_, List.getElem?_eq_getElem hlt⟩
      have HS := hid (any_step p hx)
      have HC := hid (HF.out i x hx wr HB.out)
      obtain ⟨b, o, rfl, e0, e1, e2, e3, e4, e5, e6, e7⟩ := HL.out i x hx wr HB.out
      clear hx
      cases hp : p x with
      | true =>
        have HE := hid (show l.any p = true by rw [HI.out, HS.out, hp]; rfl)
        rw [hp] at HC
        clear hp
        go_wp2_with (go_at_fn f; refine Calls.mono HC.out ?_; rintro e u ⟨rfl, hb⟩)
        have HB2 := hid (HB.out.trans (hb.mono HB.out.size))
        go_ret
        exact ⟨⟨_, rfl, by rw [HE.out]; simp⟩, HB2.out⟩
      | false =>
        have HE := hid (show l.any p = (l.drop (i + 1)).any p by rw [HI.out, HS.out, hp]; rfl)
        rw [hp] at HC
        clear hp
        go_wp2_with (go_at_fn f; refine Calls.mono HC.out ?_; rintro e u ⟨rfl, hb⟩)
        have HB2 := hid (HB.out.trans (hb.mono HB.out.size))
        go_roundw
        case rel => first | exact ⟨i + 1, by omega, by go_num, HB2, HE⟩ | ((repeat apply Exists.intro); exact ⟨⟨i + 1, by omega, by go_num, HB2, HE⟩, rfl⟩) | (refine ⟨trivial, ?_⟩; (repeat apply Exists.intro); exact ⟨⟨i + 1, by omega, by go_num, HB2, HE⟩, rfl⟩)
        case measure => simp [intOf]; omega
    · have i1 : ¬ (i : Int) < (l.length : Int) := by omega
      have HE := hid (show l.any p = false by rw [HI.out, List.drop_eq_nil_of_le (by omega)]; rfl)
      go_wp2
      go_ret
      exact ⟨⟨_, rfl, by rw [HE.out]; rfl⟩, HB.out⟩
set_option maxHeartbeats 4000000 in
set_option maxRecDepth 100000 in
theorem conT {A : Type} (l : List A) (p : A → Bool) (V0 V1 V2 V3 V4 V5 V6 V7 : A → Value) (a : Option Addr) (c f : Nat) (cap : Array Value) (eg : ∀ args w, (callFunc f args).run Tryz.prog w = .ok (.enter f args) w) (w : World) (hm : l.length ≤ maxLen)
    (hL : ∀ (i : Nat) (x : A), l[i]? = some x → ∀ u, Below w.heap.size w u → ∃ b o, a = some ⟨b, o, none⟩ ∧ u.cell? ⟨b, o + i * 8, none⟩ = some (V0 x) ∧ u.cell? ⟨b, o + i * 8 + 1, none⟩ = some (V1 x) ∧ u.cell? ⟨b, o + i * 8 + 2, none⟩ = some (V2 x) ∧ u.cell? ⟨b, o + i * 8 + 3, none⟩ = some (V3 x) ∧ u.cell? ⟨b, o + i * 8 + 4, none⟩ = some (V4 x) ∧ u.cell? ⟨b, o + i * 8 + 5, none⟩ = some (V5 x) ∧ u.cell? ⟨b, o + i * 8 + 6, none⟩ = some (V6 x) ∧ u.cell? ⟨b, o + i * 8 + 7, none⟩ = some (V7 x))
    (hf : ∀ (i : Nat) (x : A), l[i]? = some x → ∀ u, Below w.heap.size w u → Calls Tryz.prog f (#[.agg #[V0 x, V1 x, V2 x, V3 x, V4 x, V5 x, V6 x, V7 x]] ++ cap) u fun e u' => e = .returned (.bool (p x)) ∧ Below u.heap.size u u') :
    Calls Tryz.prog 27 #[.slice a l.length c, .func (.func f) #[] cap] w fun e w' => e = .returned (.bool (l.any p)) ∧ Below w.heap.size w w' := by
  have HI := hid (idxT l p V0 V1 V2 V3 V4 V5 V6 V7 a c f cap eg w hm hL hf)
  obtain ⟨q, hq⟩ : ∃ q, q = l.any p := ⟨_, rfl⟩
  rw [← hq] at HI
  rw [← hq]
  clear hL hf hq
  go_enter Tryz.func27, Tryz.ntmps27
  go_wp2_with fail
  refine HI.out.mono ?_
  rintro e w1 ⟨⟨z, rfl, hz⟩, hb⟩
  simp only
  have HZ := hid hz
  have HB := hid hb
  clear hz hb
  go_wp2
  go_ret
  exact ⟨ret_bool HZ.out, HB.out⟩
end Go.Proofs.YtkciflocpelhiaaGreatDoor
