/-
  What reads states of boxes: sizes, searches, and whether a box may be: the walks.
-/
import Derived.Test.YtgooljlpffnaeaaGreatDoorRows
import Derived.Test.YtgooljlpffnaeaaGreatDoorFQPoLd4
set_option maxHeartbeats 1000000
set_option maxRecDepth 100000
namespace Go.Proofs.YtgooljlpffnaeaaGreatDoor
open Go.RowKit Go.Proofs
def idxZ {A : Type} (p : A → Bool) (l : List A) : Int := match l.findIdx? p with
 | none => -1
 | some i => i
theorem jc7 {A : Type} {p : A → Bool} {l : List A} {i : Nat} {x : A} (h : ∀ (j : Nat) y, j < i → l[j]? = some y → p y = false) (hx : l[i]? = some x) (hp : p x = true) : idxZ p l = i := by
 have hi : i < l.length := (List.getElem?_eq_some_iff.1 hx).1; have : l.findIdx? p = some i := List.findIdx?_eq_some_iff_getElem.2 ⟨hi, by rw [(List.getElem?_eq_some_iff.1 hx).2]; exact hp, fun j hj => by rw [h j l[j] hj (List.getElem?_eq_getElem (by omega))]; simp⟩; unfold idxZ; rw [this]
theorem vH {A : Type} {p : A → Bool} {l : List A} (h : ∀ (j : Nat) y, j < l.length → l[j]? = some y → p y = false) : idxZ p l = -1 := by
 have : l.findIdx? p = none := List.findIdx?_eq_none_iff.2 fun x hx => by
  obtain ⟨j, hj, rfl⟩ := List.getElem_of_mem hx; rw [h j _ hj (List.getElem?_eq_getElem hj)]
 unfold idxZ; rw [this]
theorem jbW {A : Type} {p : A → Bool} {l : List A} {i : Nat} {x : A} (h : ∀ (j : Nat) y, j < i → l[j]? = some y → p y = false) (hx : l[i]? = some x) (hp : p x = false) : ∀ (j : Nat) y, j < i + 1 → l[j]? = some y → p y = false := by
 intro j y hj hy
 by_cases e : j = i
 · subst e; rw [hx] at hy; cases hy; exact hp
 · exact h j y (by omega) hy
theorem jaA {A : Type} {p : A → Bool} {l : List A} (h : l.findIdx? p = none) : idxZ p l = -1 := by unfold idxZ; rw [h]
theorem zC {A : Type} {p : A → Bool} {l : List A} {i : Nat} (h : l.findIdx? p = some i) : idxZ p l = i := by unfold idxZ; rw [h]
theorem jnl (l : List Bx) (p : Bx → Bool) (a : Option Addr) (c f : Nat) (cap : Array Value) (eg : ∀ args w, (callFunc f args).run Tryz.prog w = .ok (.enter f args) w) (w : World) (Q : Nat → Prop) (hL : BoxsM Q w (.slice a l.length c) l)
 (hf : ∀ b v u, Below w.heap.size w u → Calls Tryz.prog f (#[.agg #[.string (S b.name), .int .i64 b.next, v]] ++ cap) u fun e u' => e = .returned (.bool (p b)) ∧ Below u.heap.size u u') :
 Calls Tryz.prog 140 #[.slice a l.length c, .func (.func f) #[] cap] w fun e w' => e = .returned (.int .i64 (idxZ p l)) ∧ Below w.heap.size w w' := by
 have hm := RowM.small hL; have HL := hid hL; have HF := hid hf; unfold maxLen at hm; clear hL hf; go_enter Tryz.func140, Tryz.ntmps140; go_wp2
 go_loopw [8] (fun v wr => ∃ i : Nat, i ≤ l.length ∧ v = .int .i64 i ∧ Hid (Below w.heap.size w wr) ∧ Hid (∀ (j : Nat) y, j < i → l[j]? = some y → p y = false)) (fun v _ => l.length - (intOf v).toNat)
 case atStart => exact ⟨0, Nat.zero_le _, rfl, Below.refl _ _, fun j y h => by omega⟩
 case round =>
  obtain ⟨i, hi, rfl, HB, HI⟩ := hrel
  by_cases hlt : i < l.length
  · have i1 : (i : Int) < (l.length : Int) := by omega
    have i0 : (0 : Int) ≤ (i : Int) := by omega
    obtain ⟨x, hx⟩ : ∃ x, l[i]? = some x := ⟨_, List.getElem?_eq_getElem hlt⟩; obtain ⟨b, o, v, rfl, _, e0, e1, e2, _⟩ := (HL.out.next HB.out).at hx; have HC := hid (HF.out x v wr HB.out); have HX := hid hx; clear hx; cases hp : p x with
    | true =>
      have HE := hid (jc7 HI.out HX.out hp); rw [hp] at HC; clear hp
      go_wp2_with (go_at_fn f; refine Calls.mono HC.out ?_; rintro e u ⟨rfl, hb⟩)
      have HB2 := hid (HB.out.trans (hb.mono HB.out.size)); go_ret; exact ⟨jb HE.out.symm, HB2.out⟩
    | false =>
      have HE := hid (jbW HI.out HX.out hp); rw [hp] at HC; clear hp
      go_wp2_with (go_at_fn f; refine Calls.mono HC.out ?_; rintro e u ⟨rfl, hb⟩)
      have HB2 := hid (HB.out.trans (hb.mono HB.out.size))
      go_roundw
      case rel => first | exact ⟨i + 1, by omega, by go_num, HB2, HE⟩ | ((repeat apply Exists.intro); exact ⟨⟨i + 1, by omega, by go_num, HB2, HE⟩, rfl⟩) | (refine ⟨trivial, ?_⟩; (repeat apply Exists.intro); exact ⟨⟨i + 1, by omega, by go_num, HB2, HE⟩, rfl⟩)
      case measure => simp [intOf]; omega
  · have i1 : ¬ (i : Int) < (l.length : Int) := by omega
    have HE := hid (vH fun (j : Nat) y hj => HI.out j y (by omega)); go_wp2; go_ret; exact ⟨jb HE.out.symm, HB.out⟩
theorem jmG (l : List Mail) (p : Mail → Bool) (a : Option Addr) (c f : Nat) (cap : Array Value) (eg : ∀ args w, (callFunc f args).run Tryz.prog w = .ok (.enter f args) w) (w : World) (Q : Nat → Prop) (hL : MailsM Q w (.slice a l.length c) l)
 (hf : ∀ (x : Mail) u, x ∈ l → Below w.heap.size w u → Calls Tryz.prog f (#[.agg #[.int .i64 x.uid, .int .i64 x.flags, .string (S x.text)]] ++ cap) u fun e u' => e = .returned (.bool (p x)) ∧ Below u.heap.size u u') :
 Calls Tryz.prog 142 #[.slice a l.length c, .func (.func f) #[] cap] w fun e w' => e = .returned (.int .i64 (idxZ p l)) ∧ Below w.heap.size w w' := by
 have hm := RowM.small hL; have HL := hid hL; have HF := hid hf; unfold maxLen at hm; clear hL hf; go_enter Tryz.func142, Tryz.ntmps142; go_wp2
 go_loopw [8] (fun v wr => ∃ i : Nat, i ≤ l.length ∧ v = .int .i64 i ∧ Hid (Below w.heap.size w wr) ∧ Hid (∀ (j : Nat) y, j < i → l[j]? = some y → p y = false)) (fun v _ => l.length - (intOf v).toNat)
 case atStart => exact ⟨0, Nat.zero_le _, rfl, Below.refl _ _, fun j y h => by omega⟩
 case round =>
  obtain ⟨i, hi, rfl, HB, HI⟩ := hrel
  by_cases hlt : i < l.length
  · have i1 : (i : Int) < (l.length : Int) := by omega
    have i0 : (0 : Int) ≤ (i : Int) := by omega
    obtain ⟨x, hx⟩ : ∃ x, l[i]? = some x := ⟨_, List.getElem?_eq_getElem hlt⟩; obtain ⟨b, o, rfl, _, e0, e1, e2⟩ := (HL.out.next HB.out).at hx; have HC := hid (HF.out x wr (List.mem_of_getElem? hx) HB.out); have HX := hid hx; clear hx; cases hp : p x with
    | true =>
      have HE := hid (jc7 HI.out HX.out hp); rw [hp] at HC; clear hp
      go_wp2_with (go_at_fn f; refine Calls.mono HC.out ?_; rintro e u ⟨rfl, hb⟩)
      have HB2 := hid (HB.out.trans (hb.mono HB.out.size)); go_ret; exact ⟨jb HE.out.symm, HB2.out⟩
    | false =>
      have HE := hid (jbW HI.out HX.out hp); rw [hp] at HC; clear hp
      go_wp2_with (go_at_fn f; refine Calls.mono HC.out ?_; rintro e u ⟨rfl, hb⟩)
      have HB2 := hid (HB.out.trans (hb.mono HB.out.size))
      go_roundw
      case rel => first | exact ⟨i + 1, by omega, by go_num, HB2, HE⟩ | ((repeat apply Exists.intro); exact ⟨⟨i + 1, by omega, by go_num, HB2, HE⟩, rfl⟩) | (refine ⟨trivial, ?_⟩; (repeat apply Exists.intro); exact ⟨⟨i + 1, by omega, by go_num, HB2, HE⟩, rfl⟩)
      case measure => simp [intOf]; omega
  · have i1 : ¬ (i : Int) < (l.length : Int) := by omega
    have HE := hid (vH fun (j : Nat) y hj => HI.out j y (by omega)); go_wp2; go_ret; exact ⟨jb HE.out.symm, HB.out⟩
theorem jnm (l : List Ent) (p : Ent → Bool) (a : Option Addr) (c f : Nat) (cap : Array Value) (eg : ∀ args w, (callFunc f args).run Tryz.prog w = .ok (.enter f args) w) (w : World) (Q : Nat → Prop) (hL : EntsM Q w (.slice a l.length c) l)
 (hf : ∀ (x : Ent) u, x ∈ l → Below w.heap.size w u → Calls Tryz.prog f (#[.agg #[.int .i64 x.kind, .string (S x.box), .int .i64 x.uid, .int .i64 x.flags, .string (S x.goal), .string (S x.text)]] ++ cap) u fun e u' => e = .returned (.bool (p x)) ∧ Below u.heap.size u u') :
 Calls Tryz.prog 180 #[.slice a l.length c, .func (.func f) #[] cap] w fun e w' => e = .returned (.int .i64 (idxZ p l)) ∧ Below w.heap.size w w' := by
 have hm := RowM.small hL; have HL := hid hL; have HF := hid hf; unfold maxLen at hm; clear hL hf; go_enter Tryz.func180, Tryz.ntmps180; go_wp2
 go_loopw [8] (fun v wr => ∃ i : Nat, i ≤ l.length ∧ v = .int .i64 i ∧ Hid (Below w.heap.size w wr) ∧ Hid (∀ (j : Nat) y, j < i → l[j]? = some y → p y = false)) (fun v _ => l.length - (intOf v).toNat)
 case atStart => exact ⟨0, Nat.zero_le _, rfl, Below.refl _ _, fun j y h => by omega⟩
 case round =>
  obtain ⟨i, hi, rfl, HB, HI⟩ := hrel
  by_cases hlt : i < l.length
  · have i1 : (i : Int) < (l.length : Int) := by omega
    have i0 : (0 : Int) ≤ (i : Int) := by omega
    obtain ⟨x, hx⟩ : ∃ x, l[i]? = some x := ⟨_, List.getElem?_eq_getElem hlt⟩; obtain ⟨b, o, rfl, _, e0, e1, e2, e3, e4, e5⟩ := (HL.out.next HB.out).at hx; have HC := hid (HF.out x wr (List.mem_of_getElem? hx) HB.out); have HX := hid hx; clear hx; cases hp : p x with
    | true =>
      have HE := hid (jc7 HI.out HX.out hp); rw [hp] at HC; clear hp
      go_wp2_with (go_at_fn f; refine Calls.mono HC.out ?_; rintro e u ⟨rfl, hb⟩)
      have HB2 := hid (HB.out.trans (hb.mono HB.out.size)); go_ret; exact ⟨jb HE.out.symm, HB2.out⟩
    | false =>
      have HE := hid (jbW HI.out HX.out hp); rw [hp] at HC; clear hp
      go_wp2_with (go_at_fn f; refine Calls.mono HC.out ?_; rintro e u ⟨rfl, hb⟩)
      have HB2 := hid (HB.out.trans (hb.mono HB.out.size))
      go_roundw
      case rel => first | exact ⟨i + 1, by omega, by go_num, HB2, HE⟩ | ((repeat apply Exists.intro); exact ⟨⟨i + 1, by omega, by go_num, HB2, HE⟩, rfl⟩) | (refine ⟨trivial, ?_⟩; (repeat apply Exists.intro); exact ⟨⟨i + 1, by omega, by go_num, HB2, HE⟩, rfl⟩)
      case measure => simp [intOf]; omega
  · have i1 : ¬ (i : Int) < (l.length : Int) := by omega
    have HE := hid (vH fun (j : Nat) y hj => HI.out j y (by omega)); go_wp2; go_ret; exact ⟨jb HE.out.symm, HB.out⟩
theorem jlk (a b : List UInt8) : ((S a).toList == (S b).toList) = decide (a = b) := by
 rw [Lib.toList_data, Lib.toList_data, jw, jw]
 by_cases h : a = b
 · subst h; simp
 · simp [h]
theorem jeA (s n : List UInt8) (z : Int) (v : Value) (B : Nat) (w : World) (hc : w.cell? ⟨B, 0, none⟩ = some (.string (S s))) :
 Calls Tryz.prog 141 #[.agg #[.string (S n), .int .i64 z, v], .pointer (some ⟨B, 0, none⟩)] w fun e w' => e = .returned (.bool (decide (n = s))) ∧ Below w.heap.size w w' := by
 have HS := hid (jlk n s); have hc2 := jX hc (.cells #[.string (S n), .int .i64 z, v] 40); have HB := hid (show Below w.heap.size w (w.alloc (.cells #[.string (S n), .int .i64 z, v] 40)) from nb0 _ _); go_enter Tryz.func141, Tryz.ntmps141; go_wp2; go_ret; exact ⟨jc (by rw [← HS.out]), HB.out⟩
theorem jib (u z f : Int) (t : List UInt8) (B : Nat) (w : World) (hc : w.cell? ⟨B, 0, none⟩ = some (.int .i64 u)) :
 Calls Tryz.prog 143 #[.agg #[.int .i64 z, .int .i64 f, .string (S t)], .pointer (some ⟨B, 0, none⟩)] w fun e w' => e = .returned (.bool (decide (z = u))) ∧ Below w.heap.size w w' := by
 have hc2 := jX hc (.cells #[.int .i64 z, .int .i64 f, .string (S t)] 173); have HB := hid (show Below w.heap.size w (w.alloc (.cells #[.int .i64 z, .int .i64 f, .string (S t)] 173)) from nb0 _ _); go_enter Tryz.func143, Tryz.ntmps143; go_wp2; go_ret; exact ⟨jc (by first | rfl | simp), HB.out⟩
theorem jN (l : List Bx) (s : List UInt8) (a : Option Addr) (c : Nat) (w : World) (Q : Nat → Prop) (hL : BoxsM Q w (.slice a l.length c) l) :
 Calls Tryz.prog 92 #[.slice a l.length c, .string (S s)] w fun e w' => e = .returned (.int .i64 (idxZ (isName s) l)) ∧ Below w.heap.size w w' := by
 have hmf : ∀ (fn : Fn) (first cap : Array Value) (w : World), (Instr.makeFunc fn first cap).run Tryz.prog w = .ok (.func fn first cap) w := fun _ _ _ _ => rfl
 have eg : ∀ args w, (callFunc 141 args).run Tryz.prog w = .ok (.enter 141 args) w := enters_of Tryz.func141 (by kernel_rfl) rfl; have hB1 : Below w.heap.size w (w.alloc (.cells #[.string (S s)] 9)) := nb0 _ _; have hcell : (w.alloc (.cells #[.string (S s)] 9)).cell? ⟨w.heap.size, 0, none⟩ = some (.string (S s)) := by simp
 have HC := hid (jnl l (isName s) a c 141 #[.pointer (some ⟨w.heap.size, 0, none⟩)] eg (w.alloc (.cells #[.string (S s)] 9)) Q (hL.next hB1)
  (fun b v u hu => jeA s b.name b.next v w.heap.size u (ja hcell hu)))
 have HB1 := hid hB1; clear hL hB1 hcell; go_enter Tryz.func92, Tryz.ntmps92; go_wp2_with fail; refine HC.out.mono ?_; rintro e w2 ⟨rfl, hb⟩; have HB2 := hid (HB1.out.trans (hb.mono HB1.out.size)); clear hb; simp only; go_wp2; go_ret; exact ⟨rfl, HB2.out⟩
theorem qe (l : List Mail) (u : Int) (a : Option Addr) (c : Nat) (w : World) (Q : Nat → Prop) (hL : MailsM Q w (.slice a l.length c) l) :
 Calls Tryz.prog 96 #[.slice a l.length c, .int .i64 u] w fun e w' => e = .returned (.int .i64 (idxZ (jbS u) l)) ∧ Below w.heap.size w w' := by
 have hmf : ∀ (fn : Fn) (first cap : Array Value) (w : World), (Instr.makeFunc fn first cap).run Tryz.prog w = .ok (.func fn first cap) w := fun _ _ _ _ => rfl
 have eg : ∀ args w, (callFunc 143 args).run Tryz.prog w = .ok (.enter 143 args) w := enters_of Tryz.func143 (by kernel_rfl) rfl; have hB1 : Below w.heap.size w (w.alloc (.cells #[.int .i64 u] 3)) := nb0 _ _; have hcell : (w.alloc (.cells #[.int .i64 u] 3)).cell? ⟨w.heap.size, 0, none⟩ = some (.int .i64 u) := by simp
 have HC := hid (jmG l (jbS u) a c 143 #[.pointer (some ⟨w.heap.size, 0, none⟩)] eg (w.alloc (.cells #[.int .i64 u] 3)) Q (hL.next hB1)
  (fun x u' _ hu => jib u x.uid x.flags x.text w.heap.size u' (ja hcell hu)))
 have HB1 := hid hB1; clear hL hB1 hcell; go_enter Tryz.func96, Tryz.ntmps96; go_wp2_with fail; refine HC.out.mono ?_; rintro e w2 ⟨rfl, hb⟩; have HB2 := hid (HB1.out.trans (hb.mono HB1.out.size)); clear hb; simp only; go_wp2; go_ret; exact ⟨rfl, HB2.out⟩
theorem jg9 {l : List Bx} {k : Nat} {b : Bx} (h : l[k]? = some b) : jY (l.take (k + 1)) = jY (l.take k) + zh b.mails := by
 have hk : k < l.length := (List.getElem?_eq_some_iff.1 h).1; rw [List.take_succ_eq_append_getElem hk, jb5, (List.getElem?_eq_some_iff.1 h).2]
 simp [jY]
theorem jha {l : List Mail} {k : Nat} {b : Mail} (h : l[k]? = some b) : zh (l.take (k + 1)) = zh (l.take k) + b.text.length := by
 have hk : k < l.length := (List.getElem?_eq_some_iff.1 h).1; rw [List.take_succ_eq_append_getElem hk, jb7, (List.getElem?_eq_some_iff.1 h).2]
 simp [zh]
theorem jls {w : World} {p : Nat} {v0 v1 v2 : Value} {t : TypeId} (h : w.heap[p]? = some (.cells #[v0, v1, v2] t)) : w.cell? ⟨p, 0, none⟩ = some v0 ∧ w.cell? ⟨p, 1, none⟩ = some v1 ∧ w.cell? ⟨p, 2, none⟩ = some v2 := by
 refine ⟨?_, ?_, ?_⟩ <;> simp [World.cell?, h]
theorem jcK (l : List Bx) (a : Option Addr) (c : Nat) (w : World) (Q : Nat → Prop) (hL : BoxsM Q w (.slice a l.length c) l) (hz : jY l ≤ 6000) :
 Calls Tryz.prog 137 #[.slice a l.length c] w fun e w' => e = .returned (.int .i64 (jY l : Nat)) ∧ Below w.heap.size w w' := by
 have hm := RowM.small hL; have HL := hid hL; unfold maxLen at hm; clear hL; go_enter Tryz.func137, Tryz.ntmps137; go_wp2
 go_loopw [3, 10] (fun n v wr => ∃ i : Nat, i ≤ l.length ∧ v = .int .i64 i ∧ n = .int .i64 (jY (l.take i) : Nat) ∧ Hid (Below w.heap.size w wr)) (fun _ v _ => l.length - (intOf v).toNat)
 case atStart => exact ⟨0, Nat.zero_le _, rfl, rfl, Below.refl _ _⟩
 case round =>
  obtain ⟨i, hi, rfl, rfl, HB⟩ := hrel
  by_cases hlt : i < l.length
  · have i1 : (i : Int) < (l.length : Int) := by omega
    have i0 : (0 : Int) ≤ (i : Int) := by omega
    obtain ⟨x, hx⟩ : ∃ x, l[i]? = some x := ⟨_, List.getElem?_eq_getElem hlt⟩; obtain ⟨b, o, v, rfl, _, e0, e1, e2, hM⟩ := (HL.out.next HB.out).at hx; obtain ⟨am, cm, rfl⟩ := RowM.slice hM; have hsm := RowM.small hM; unfold maxLen at hsm; have HM := hid hM; have HS := hid (jg9 hx); have hle : jY (l.take i) + zh x.mails ≤ 6000 := by rw [← HS.out]; exact Nat.le_trans (jdm l (i + 1)) hz
    obtain ⟨wo, rfl⟩ : ∃ W, W = wr := ⟨_, rfl⟩; have HB1 := hid (show Below wo.heap.size wo (wo.alloc (.cells #[.string (S x.name), .int .i64 x.next, .slice am x.mails.length cm] 40)) from nb0 _ _); clear hM hx; go_wp2
    go_loopw [3, 17] (fun n v wr => ∃ j : Nat, j ≤ x.mails.length ∧ v = .int .i64 j ∧ n = .int .i64 (jY (l.take i) + zh (x.mails.take j) : Nat) ∧ Hid (Below wo.heap.size wo wr)) (fun _ v _ => x.mails.length - (intOf v).toNat)
    case atStart => exact ⟨0, Nat.zero_le _, rfl, rfl, HB1⟩
    case round =>
        obtain ⟨j, hj, rfl, rfl, HB2⟩ := hrel
        by_cases hlj : j < x.mails.length
        · have j1 : (j : Int) < (x.mails.length : Int) := by omega
          have j0 : (0 : Int) ≤ (j : Int) := by omega
          obtain ⟨m, hm'⟩ : ∃ m, x.mails[j]? = some m := ⟨_, List.getElem?_eq_getElem hlj⟩; obtain ⟨b', o', rfl, _, k0, k1, k2⟩ := (HM.out.next HB2.out).at hm'; have HT := hid (jha hm'); have hle2 : zh (x.mails.take j) + m.text.length ≤ zh x.mails := by rw [← HT.out]; exact jdn _ _
          have hr1 : (0 : Int) ≤ ((jY (l.take i) + zh (x.mails.take j) : Nat) : Int) := by omega
          have hr2 : ((jY (l.take i) + zh (x.mails.take j) : Nat) : Int) + ((S m.text).size : Int) ≤ 6000 := by rw [jd]; omega
          have HE := hid (show ((jY (l.take i) + zh (x.mails.take j) : Nat) : Int) + ((S m.text).size : Int) = ((jY (l.take i) + zh (x.mails.take (j + 1)) : Nat) : Int) by rw [jd, HT.out]; omega); have HB3 := hid (show ∀ o : Obj, Below wo.heap.size wo (wr.alloc o) from fun o => HB2.out.alloc HB2.out.size o); clear hm' hle2; generalize ((jY (l.take i) + zh (x.mails.take j) : Nat) : Int) = q at *; go_wp2; rw [HE.out]
          go_roundw
          case rel => first | exact ⟨j + 1, by omega, by go_num, rfl, HB3.out _⟩ | ((repeat apply Exists.intro); exact ⟨⟨j + 1, by omega, by go_num, rfl, HB3.out _⟩, rfl⟩)
          case measure => simp [intOf]; omega
        · have j1 : ¬ (j : Int) < (x.mails.length : Int) := by omega
          have HE := hid (show jY (l.take i) + zh (x.mails.take j) = jY (l.take (i + 1)) by rw [HS.out, List.take_of_length_le (l := x.mails) (by omega)]); have HB3 := hid (show Below w.heap.size w wr from HB.out.trans (HB2.out.mono HB.out.size)); go_wp2; rw [HE.out]
          go_roundw
          case rel => first | exact ⟨i + 1, by omega, by go_num, rfl, HB3⟩ | ((repeat apply Exists.intro); exact ⟨⟨i + 1, by omega, by go_num, rfl, HB3⟩, rfl⟩)
          case measure => simp [intOf]; omega
  · have i1 : ¬ (i : Int) < (l.length : Int) := by omega
    have HE := hid (show jY (l.take i) = jY l by rw [List.take_of_length_le (by omega)]); go_wp2; go_ret; exact ⟨jb (by rw [HE.out]), HB.out⟩
theorem jbb (n : Int) (w : World) :
 Calls Tryz.prog 74 #[.int .i64 n] w fun e w' => e = .returned (.bool (decide (0 ≤ n) && decide (n ≤ 31))) ∧ w' = w := by
 by_cases h1 : 0 ≤ n
 · by_cases h2 : n ≤ 31
   · go_enter Tryz.func74, Tryz.ntmps74; go_wp2; go_ret; exact ⟨by simp [h1, h2], rfl⟩
   · go_enter Tryz.func74, Tryz.ntmps74; go_wp2; go_ret; exact ⟨by simp [h2], rfl⟩
 · have HF : Hid (decide (0 ≤ n) = false) := decide_eq_false h1; go_enter Tryz.func74, Tryz.ntmps74; go_wp2; go_ret; exact ⟨by rw [HF.out]; rfl, rfl⟩
def jeW (last : Int) (l : List Mail) : Nat → Int
 | 0 => last
 | k + 1 => match l[k]? with
   | some m => m.uid
   | none => last
theorem jgE (last : Int) (m : Mail) (l : List Mail) (k : Nat) (hk : k ≤ l.length) : jeW last (m :: l) (k + 1) = jeW m.uid l k := by
 cases k with
 | zero => rfl
 | succ k =>
   simp only [jeW, List.getElem?_cons_succ]; rw [List.getElem?_eq_getElem (by omega)]
theorem jkp {next : Int} : ∀ (l : List Mail) (last : Int) (k : Nat) (m : Mail), jbo last next l → l[k]? = some m → jeW last l k < m.uid ∧ m.uid < next ∧ 0 ≤ m.flags ∧ m.flags ≤ 31 ∧ m.text.length ≤ 2000 := by
 intro l
 induction l with
 | nil => intro _ k m _ h; simp at h
 | cons c l ih =>
   intro last k m ⟨k1, k2, k3, k4, k5, k6⟩ h; cases k with
   | zero => simp at h; subst h; exact ⟨k1, k2, k3, k4, k5⟩
   | succ k =>
     simp only [List.getElem?_cons_succ] at h; rw [jgE _ _ _ _ (Nat.le_of_lt (List.getElem?_eq_some_iff.1 h).1)]; exact ih _ k m k6 h
theorem jeF (b : Bx) (v : Value) (w : World) (Q : Nat → Prop) (hL : MailsM Q w v b.mails) (hM : BoxMay b) :
 Calls Tryz.prog 136 #[.agg #[.string (S b.name), .int .i64 b.next, v]] w fun e w' => e = .returned (.bool true) ∧ Below w.heap.size w w' := by
 obtain ⟨a, c, rfl⟩ := RowM.slice hL; obtain ⟨W1, hW1⟩ : ∃ W1, W1 = w.alloc (.cells #[.string (S b.name), .int .i64 b.next, .slice a b.mails.length c] 40) := ⟨_, rfl⟩; have HWE := hid hW1; have hB1 : Below w.heap.size w W1 := by rw [hW1]; exact nb0 _ _
 have hX : W1.heap[w.heap.size]? = some (.cells #[.string (S b.name), .int .i64 b.next, .slice a b.mails.length c] 40) := by rw [hW1]; exact heap_alloc_new w _
 have HX := hid hX; have HB1 := hid hB1; have HL := hid (hL.next hB1); have HN := hid (show qI (S b.name).data.toList = 0 by rw [jw]; exact hM.name); have n1 : ¬ b.next < 1 := by have := hM.next; omega
 have n2 : ¬ 1048577 < b.next := by have := hM.next; omega
 have n3 : ¬ (30 : Int) < (b.mails.length : Int) := by have := hM.many; omega
 have HR := hid hM.mails; obtain ⟨x0, x1, x2⟩ := jls hX; clear hL hW1 hX hM hB1; go_enter Tryz.func136, Tryz.ntmps136; go_wp2_with fail; rw [← HWE.out]; refine (vO (S b.name) W1).mono ?_; rintro e u ⟨rfl, hu⟩; have hu' := hu.symm; subst hu'; rw [HN.out]; clear hu; go_wp2
 go_loopw [3, 29] (fun n v wr => ∃ i : Nat, i ≤ b.mails.length ∧ v = .int .i64 i ∧ n = .int .i64 (jeW 0 b.mails i) ∧ Hid (Below W1.heap.size W1 wr)) (fun _ v _ => b.mails.length - (intOf v).toNat)
 case atStart => exact ⟨0, Nat.zero_le _, rfl, rfl, Below.refl _ _⟩
 case round =>
  obtain ⟨i, hi, rfl, rfl, HB⟩ := hrel; have y1 := ja x1 HB.out
  by_cases hlt : i < b.mails.length
  · have i1 : (i : Int) < (b.mails.length : Int) := by omega
    have i0 : (0 : Int) ≤ (i : Int) := by omega
    obtain ⟨m, hm⟩ : ∃ m, b.mails[i]? = some m := ⟨_, List.getElem?_eq_getElem hlt⟩; obtain ⟨p, o, rfl, _, e0, e1, e2⟩ := (HL.out.next HB.out).at hm; obtain ⟨r1, r2, r3, r4, r5⟩ := jkp _ _ _ _ HR.out hm; have HU := hid (show jeW 0 b.mails (i + 1) = m.uid by show (match b.mails[i]? with | some m => m.uid | none => 0) = m.uid; rw [hm]); generalize jeW 0 b.mails i = q at *; have c1 : ¬ m.uid ≤ q := by omega
    have c2 : ¬ b.next ≤ m.uid := by omega
    have c3 : ¬ (2000 : Int) < ((S m.text).size : Int) := by rw [jd]; omega
    have HFL := hid (show (decide (0 ≤ m.flags) && decide (m.flags ≤ 31)) = true by simp [r3, r4]); obtain ⟨W2, hW2⟩ : ∃ W2, W2 = wr.alloc (.cells #[.int .i64 m.uid, .int .i64 m.flags, .string (S m.text)] 173) := ⟨_, rfl⟩; have HWE2 := hid hW2; have hB2 : Below wr.heap.size wr W2 := by rw [hW2]; exact nb0 _ _
    have hX2 : W2.heap[wr.heap.size]? = some (.cells #[.int .i64 m.uid, .int .i64 m.flags, .string (S m.text)] 173) := by rw [hW2]; exact heap_alloc_new wr _
    have z1 := ja y1 hB2; have y1a := jX y1 (.cells #[.int .i64 m.uid, .int .i64 m.flags, .string (S m.text)] 173); have hne : w.heap.size ≠ wr.heap.size := Nat.ne_of_lt (World.block_lt_of_cell? _ _ y1); obtain ⟨m0, m1, m2⟩ := jls hX2; have HB3 := hid (show Below W1.heap.size W1 W2 from HB.out.trans (hB2.mono HB.out.size)); clear hm hW2 hX2 hB2 r3 r4; go_wp2_with fail; rw [← HWE2.out]; refine (jbb m.flags W2).mono ?_; rintro e u ⟨rfl, hu⟩; have hu' := hu.symm; subst hu'; rw [HFL.out]; clear hu; go_wp2
    go_roundw
    case rel => first | exact ⟨i + 1, by omega, by go_num, by rw [HU.out], HB3⟩ | ((repeat apply Exists.intro); exact ⟨⟨i + 1, by omega, by go_num, by rw [HU.out], HB3⟩, rfl⟩)
    case measure => simp [intOf]; omega
  · have i1 : ¬ (i : Int) < (b.mails.length : Int) := by omega
    have HE := hid (show Below w.heap.size w wr from HB1.out.trans (HB.out.mono HB1.out.size)); go_wp2; go_ret; exact ⟨rfl, HE.out⟩
theorem box6 {w : World} {p : Nat} {v0 v1 v2 v3 v4 v5 : Value} {t : TypeId} (h : w.heap[p]? = some (.cells #[v0, v1, v2, v3, v4, v5] t)) : w.cell? ⟨p, 0, none⟩ = some v0 ∧ w.cell? ⟨p, 1, none⟩ = some v1 ∧ w.cell? ⟨p, 2, none⟩ = some v2 ∧ w.cell? ⟨p, 3, none⟩ = some v3 ∧ w.cell? ⟨p, 4, none⟩ = some v4 ∧ w.cell? ⟨p, 5, none⟩ = some v5 := by
 refine ⟨?_, ?_, ?_, ?_, ?_, ?_⟩ <;> simp [World.cell?, h]
theorem jdI (s : List UInt8) (w : World) (h : jhZ s = 0) :
 Calls Tryz.prog 118 #[.string (S s)] w fun e w' => e = .returned (.int .i64 0) ∧ Below w.heap.size w w' := by
 unfold jhZ at h; have hl : s.length ≤ 100 := by
  rcases Nat.lt_or_ge 100 s.length with hl | hl
  · rw [if_pos hl] at h; cases h
  · exact hl
 rw [if_neg (by omega)] at h; have h2 : (qn s).2 = 0 ∧ (qn s).1.length = 1 := by
  by_cases hc : (qn s).2 = 0 ∧ (qn s).1.length = 1
  · exact hc
  · rw [if_neg hc] at h; cases h
 have c1 : ¬ (100 : Int) < ((S s).size : Int) := by rw [jd]; omega
 have HC := hid (jfG (S s) w (by rw [jd]; unfold maxLen; omega)); rw [jw] at HC; have H2 := hid h2; clear h h2 hl; go_enter Tryz.func118, Tryz.ntmps118; go_wp2_with fail; refine HC.out.mono ?_; rintro e w1 ⟨a, c, rfl, _, hb⟩; have HB := hid hb; clear hb; rw [H2.out.1, H2.out.2]; simp only; go_wp2; go_ret; exact ⟨rfl, HB.out⟩
theorem jcW (x : Ent) (w : World) (h : Formed x) :
 Calls Tryz.prog 75 #[.agg #[.int .i64 x.kind, .string (S x.box), .int .i64 x.uid, .int .i64 x.flags, .string (S x.goal), .string (S x.text)]] w fun e w' => e = .returned (.int .i64 0) ∧ Below w.heap.size w w' := by
 obtain ⟨W1, hW1⟩ : ∃ W1, W1 = w.alloc (.cells #[.int .i64 x.kind, .string (S x.box), .int .i64 x.uid, .int .i64 x.flags, .string (S x.goal), .string (S x.text)] 25) := ⟨_, rfl⟩; have HWE := hid hW1; have HB1 := hid (show Below w.heap.size w W1 by rw [hW1]; exact nb0 _ _); have hX : W1.heap[w.heap.size]? = some (.cells #[.int .i64 x.kind, .string (S x.box), .int .i64 x.uid, .int .i64 x.flags, .string (S x.goal), .string (S x.text)] 25) := by rw [hW1]; exact heap_alloc_new w _
 obtain ⟨x0, x1, x2, x3, x4, x5⟩ := box6 hX
 by_cases k6 : x.kind = 6
 · have HG := hid (h.goal k6); have c6 : (x.kind == 6) = true := by simp [k6]
   clear h k6 hW1 hX; go_enter Tryz.func75, Tryz.ntmps75; go_wp2_with fail; rw [← HWE.out]; refine (jdI x.goal W1 HG.out).mono ?_; rintro e w2 ⟨rfl, hb⟩; have HB2 := hid (HB1.out.trans (hb.mono HB1.out.size)); clear hb; go_wp2; go_ret; exact ⟨rfl, HB2.out⟩
 · have HN := hid (show qI (S x.box).data.toList = 0 by rw [jw]; exact h.name k6); have c6 : (x.kind == 6) = false := by simp [k6]
   by_cases k5 : x.kind = 5
   · have HT := hid (show qI (S x.goal).data.toList = 0 by rw [jw]; exact h.to k5); have c5 : (x.kind == 5) = true := by simp [k5]
     clear h k6 k5 hW1 hX; go_enter Tryz.func75, Tryz.ntmps75; go_wp2_with fail; rw [← HWE.out]; refine (vO (S x.box) W1).mono ?_; rintro e u ⟨rfl, hu⟩; have hu' := hu.symm; subst hu'; rw [HN.out]; clear hu; go_wp2_with fail; refine (vO (S x.goal) W1).mono ?_; rintro e u ⟨rfl, hu⟩; have hu' := hu.symm; subst hu'; rw [HT.out]; clear hu; go_wp2; go_ret; exact ⟨rfl, HB1.out⟩
   · have c5 : (x.kind == 5) = false := by simp [k5]
     clear h k6 k5 hW1 hX; go_enter Tryz.func75, Tryz.ntmps75; go_wp2_with fail; rw [← HWE.out]; refine (vO (S x.box) W1).mono ?_; rintro e u ⟨rfl, hu⟩; have hu' := hu.symm; subst hu'; rw [HN.out]; clear hu; go_wp2; go_ret; exact ⟨rfl, HB1.out⟩
theorem jc5 (x : Ent) (w : World) (h : Formed x) :
 Calls Tryz.prog 46 #[.agg #[.int .i64 x.kind, .string (S x.box), .int .i64 x.uid, .int .i64 x.flags, .string (S x.goal), .string (S x.text)]] w fun e w' => e = .returned (.int .i64 0) ∧ Below w.heap.size w w' := by
 obtain ⟨W1, hW1⟩ : ∃ W1, W1 = w.alloc (.cells #[.int .i64 x.kind, .string (S x.box), .int .i64 x.uid, .int .i64 x.flags, .string (S x.goal), .string (S x.text)] 25) := ⟨_, rfl⟩; have HWE := hid hW1; have HB1 := hid (show Below w.heap.size w W1 by rw [hW1]; exact nb0 _ _); have hX : W1.heap[w.heap.size]? = some (.cells #[.int .i64 x.kind, .string (S x.box), .int .i64 x.uid, .int .i64 x.flags, .string (S x.goal), .string (S x.text)] 25) := by rw [hW1]; exact heap_alloc_new w _
 have HX := hid hX; obtain ⟨x0, x1, x2, x3, x4, x5⟩ := box6 hX; have k1 : ¬ x.kind < 1 := by have := h.kind; omega
 have k2 : ¬ 6 < x.kind := by have := h.kind; omega
 have u1 : ¬ x.uid < 0 := by have := h.uid; omega
 have u2 : ¬ 1048576 < x.uid := by have := h.uid; omega
 have t1 : ¬ (2000 : Int) < ((S x.text).size : Int) := by rw [jd]; have := h.text; omega
 have HFL := hid (show (decide (0 ≤ x.flags) && decide (x.flags ≤ 31)) = true by simp [h.flags.1, h.flags.2]); have HBR := hid (fun u : World => jlr x u h.kind h.bare); have HCN := hid (fun u : World => jcW x u h); clear h hW1 hX; go_enter Tryz.func46, Tryz.ntmps46; go_wp2; rw [← HWE.out]
 go_cut [1, 2, 12] (fun a b c wx => a = .pointer (some ⟨w.heap.size, 0, none⟩) ∧ c = .bool false ∧ Below W1.heap.size W1 wx)
 case first =>
  go_region_held3 (fun w' => w'.cell? ⟨w.heap.size, 0, none⟩ = some (.int .i64 x.kind) ∧ w'.cell? ⟨w.heap.size, 1, none⟩ = some (.string (S x.box)) ∧ w'.cell? ⟨w.heap.size, 2, none⟩ = some (.int .i64 x.uid) ∧ w'.cell? ⟨w.heap.size, 3, none⟩ = some (.int .i64 x.flags) ∧ w'.cell? ⟨w.heap.size, 4, none⟩ = some (.string (S x.goal)) ∧ w'.cell? ⟨w.heap.size, 5, none⟩ = some (.string (S x.text))) (go_keep)
   (first
        | (go_at_call 73
           with_reducible refine (HBR.out W1.drew).mono ?_
           rintro e w2 ⟨rfl, hb⟩; have hb2 : Below W1.heap.size W1 w2 := (Below.refl _ _).drew.trans hb; have HB2 := hid hb2; have z0 := ja x0 hb2; have z1 := ja x1 hb2; have z2 := ja x2 hb2; have z3 := ja x3 hb2; have z4 := ja x4 hb2; have z5 := ja x5 hb2; clear hb hb2))
  all_goals
   go_wp2_with fail
   go_meet
   exact ⟨rfl, by first | rfl | simp, HB2.out⟩
 case rest =>
  obtain ⟨rfl, rfl, hb⟩ := hcut; have z2 := ja x2 hb; have z3 := ja x3 hb; have z5 := ja x5 hb; have hX3 := (hb.block w.heap.size (World.block_lt_of_cell? _ _ x0)).trans HX.out; obtain ⟨z0, _, _, _, z4, _⟩ := box6 hX3; have z1 := ja x1 hb; have HB2 := hid (HB1.out.trans (hb.mono HB1.out.size)); clear hb hX3 HBR; go_wp2_with fail; refine (jbb x.flags wc).mono ?_; rintro e u ⟨rfl, hu⟩; have hu' := hu.symm; subst hu'; rw [HFL.out]; clear hu; go_wp2_with fail; refine (HCN.out wc).mono ?_; rintro e w3 ⟨rfl, hb3⟩; have HB3 := hid (HB2.out.trans (hb3.mono HB2.out.size)); clear hb3; go_wp2; go_ret; exact ⟨rfl, HB3.out⟩
theorem jc4 {k : Nat} : ∀ {css : List (List Value)} {j : Nat} {u : Value}, (∀ c ∈ css, c.length = k) → css.flatten[j]? = some u → ∃ i r cs, j = i * k + r ∧ r < k ∧ css[i]? = some cs ∧ cs[r]? = some u := by
 intro css
 induction css with
 | nil => intro j u _ h; simp at h
 | cons c css ih =>
   intro j u hk h; have hc : c.length = k := hk c (by simp); simp only [List.flatten_cons] at h
   rcases Nat.lt_or_ge j k with hj | hj
   · rw [List.getElem?_append_left (by omega)] at h; exact ⟨0, j, c, by omega, hj, rfl, h⟩
   · rw [List.getElem?_append_right (by omega), hc] at h; obtain ⟨i, r, cs, e, hr, h1, h2⟩ := ih (fun c hc => hk c (by simp [hc])) h; exact ⟨i + 1, r, cs, by rw [Nat.add_mul]; omega, hr, by simpa using h1, h2⟩
theorem jad {k : Nat} : ∀ {css : List (List Value)}, (∀ c ∈ css, c.length = k) → css.flatten.length = css.length * k := by
 intro css
 induction css with
 | nil => intro _; simp
 | cons c css ih =>
   intro h; rw [List.flatten_cons, List.length_append, ih fun c hc => h c (by simp [hc]), h c (by simp), List.length_cons, Nat.add_mul]; omega
theorem jj6 (l : List Mail) : ∀ u ∈ (l.map j9).flatten, u.oneCell' = true := by
 intro u hu; obtain ⟨cs, hcs, hu⟩ := List.mem_flatten.1 hu; obtain ⟨m, _, rfl⟩ := List.mem_map.1 hcs; simp only [j9, List.mem_cons, List.not_mem_nil, or_false] at hu
 rcases hu with rfl | rfl | rfl <;> rfl
theorem jlP (l : List Ent) : ∀ u ∈ (l.map entC).flatten, u.oneCell' = true := by
 intro u hu; obtain ⟨cs, hcs, hu⟩ := List.mem_flatten.1 hu; obtain ⟨m, _, rfl⟩ := List.mem_map.1 hcs; simp only [entC, List.mem_cons, List.not_mem_nil, or_false] at hu
 rcases hu with rfl | rfl | rfl | rfl | rfl | rfl <;> rfl
theorem jk4 : (Tryz.prog.info? 173).map (fun i => (i.zero, i.size, i.bytes)) = some (some (.agg #[.int .i64 0, .int .i64 0, .string ByteArray.empty]), 3, 32) := by kernel_rfl
theorem jk1 : (Tryz.prog.info? 40).map (fun i => (i.zero, i.size, i.bytes)) = some (some (.agg #[.string ByteArray.empty, .int .i64 0, .slice none 0 0]), 3, 48) := by kernel_rfl
theorem jk2 : (Tryz.prog.info? 25).map (fun i => (i.zero, i.size, i.bytes)) = some (some (.agg #[.int .i64 0, .string ByteArray.empty, .int .i64 0, .int .i64 0, .string ByteArray.empty, .string ByteArray.empty]), 6, 72) := by kernel_rfl
theorem jlE (ad : Addr) (n c : Nat) (news : List Value) (w : World) (hl : news.length = n * 3) (hn : n ≤ 1000) (hc : ∀ j u, news[j]? = some u → w.cell? (ad.add j) = some u) (h1 : ∀ u ∈ news, u.oneCell' = true) :
 Calls Tryz.prog 89 #[.slice (some ad) n c] w fun e w' => ∃ v', e = .returned v' ∧ (w'.ownsRow w.heap.size 173 3 v' n news) ∧ Below w.heap.size w w' := by
 obtain ⟨i0, hi, hz0, hz1, hz2⟩ := info_parts jk4; have q22 : ∀ (w : World) (a : Option Addr) (n c n' c' : Nat), (binOp .eql 38 (.slice a n c) (.slice none n' c')).run Tryz.prog w = .ok (.bool a.isNone) w := fun w a n c n' c' => Lib.run_eql_slice_nil w _ _ a n c n' c' Tryz.underlying38
 have HC := hid hc; have H1 := hid h1; have HL := hid hl; clear hc h1 hl; go_enter Tryz.func89, Tryz.ntmps89
 go_wp2_with (at_builtin; refine wpList_append_own _ rfl _ _ 38 rfl w.heap.size 173 i0 _ 3 32 Tryz.underlying38 hi hz0 hz1 hz2 rfl (by decide) _ _ _ rfl (World.ownsRow_made w #[] 0 (Nat.le_refl _) (Nat.zero_le _) rfl) ad n c news rfl ?qc1 ?qc2 ?qc3 ?qc4 ?qc5 ?qc6 ?_)
 case qc1 => exact HL.out
 case qc2 => exact fun j u hj => Lib.cell?_alloc_some _ (HC.out j u hj)
 case qc3 => exact H1.out
 case qc4 => unfold maxLen; omega
 case qc5 => omega
 case qc6 => simp
 intro v' w1 hown hgrow hnil; have HO := hid hown; have HB := hid (show Below w.heap.size w w1 from ((Below.refl _ w).alloc (Nat.le_refl _) _).grown hgrow (by simp) (by intro k hk; simp [Value.ownBlock] at hk; omega)); clear hown hgrow hnil; go_wp2; go_ret; exact ⟨v', rfl, by simpa using HO.out, HB.out⟩
theorem jeP (n c : Nat) (w : World) :
 Calls Tryz.prog 89 #[.slice none n c] w fun e w' => e = .returned (.slice none 0 0) ∧ w' = w := by
 have q22 : ∀ (w : World) (a : Option Addr) (n c n' c' : Nat), (binOp .eql 38 (.slice a n c) (.slice none n' c')).run Tryz.prog w = .ok (.bool a.isNone) w := fun w a n c n' c' => Lib.run_eql_slice_nil w _ _ a n c n' c' Tryz.underlying38
 go_enter Tryz.func89, Tryz.ntmps89; go_wp2; go_ret; exact ⟨rfl, rfl⟩
theorem jlC (ad : Addr) (n c : Nat) (news : List Value) (w : World) (hl : news.length = n * 3) (hn : n ≤ 1000) (hc : ∀ j u, news[j]? = some u → w.cell? (ad.add j) = some u) (h1 : ∀ u ∈ news, u.oneCell' = true) :
 Calls Tryz.prog 87 #[.slice (some ad) n c] w fun e w' => ∃ v', e = .returned v' ∧ (w'.ownsRow w.heap.size 40 3 v' n news) ∧ Below w.heap.size w w' := by
 obtain ⟨i0, hi, hz0, hz1, hz2⟩ := info_parts jk1; have q22 : ∀ (w : World) (a : Option Addr) (n c n' c' : Nat), (binOp .eql 41 (.slice a n c) (.slice none n' c')).run Tryz.prog w = .ok (.bool a.isNone) w := fun w a n c n' c' => Lib.run_eql_slice_nil w _ _ a n c n' c' Tryz.underlying41
 have HC := hid hc; have H1 := hid h1; have HL := hid hl; clear hc h1 hl; go_enter Tryz.func87, Tryz.ntmps87
 go_wp2_with (at_builtin; refine wpList_append_own _ rfl _ _ 41 rfl w.heap.size 40 i0 _ 3 48 Tryz.underlying41 hi hz0 hz1 hz2 rfl (by decide) _ _ _ rfl (World.ownsRow_made w #[] 0 (Nat.le_refl _) (Nat.zero_le _) rfl) ad n c news rfl ?qc1 ?qc2 ?qc3 ?qc4 ?qc5 ?qc6 ?_)
 case qc1 => exact HL.out
 case qc2 => exact fun j u hj => Lib.cell?_alloc_some _ (HC.out j u hj)
 case qc3 => exact H1.out
 case qc4 => unfold maxLen; omega
 case qc5 => omega
 case qc6 => simp
 intro v' w1 hown hgrow hnil; have HO := hid hown; have HB := hid (show Below w.heap.size w w1 from ((Below.refl _ w).alloc (Nat.le_refl _) _).grown hgrow (by simp) (by intro k hk; simp [Value.ownBlock] at hk; omega)); clear hown hgrow hnil; go_wp2; go_ret; exact ⟨v', rfl, by simpa using HO.out, HB.out⟩
theorem jeN (n c : Nat) (w : World) :
 Calls Tryz.prog 87 #[.slice none n c] w fun e w' => e = .returned (.slice none 0 0) ∧ w' = w := by
 have q22 : ∀ (w : World) (a : Option Addr) (n c n' c' : Nat), (binOp .eql 41 (.slice a n c) (.slice none n' c')).run Tryz.prog w = .ok (.bool a.isNone) w := fun w a n c n' c' => Lib.run_eql_slice_nil w _ _ a n c n' c' Tryz.underlying41
 go_enter Tryz.func87, Tryz.ntmps87; go_wp2; go_ret; exact ⟨rfl, rfl⟩
theorem jlD (ad : Addr) (n c : Nat) (news : List Value) (w : World) (hl : news.length = n * 6) (hn : n ≤ 1000) (hc : ∀ j u, news[j]? = some u → w.cell? (ad.add j) = some u) (h1 : ∀ u ∈ news, u.oneCell' = true) :
 Calls Tryz.prog 88 #[.slice (some ad) n c] w fun e w' => ∃ v', e = .returned v' ∧ (w'.ownsRow w.heap.size 25 6 v' n news) ∧ Below w.heap.size w w' := by
 obtain ⟨i0, hi, hz0, hz1, hz2⟩ := info_parts jk2; have q22 : ∀ (w : World) (a : Option Addr) (n c n' c' : Nat), (binOp .eql 42 (.slice a n c) (.slice none n' c')).run Tryz.prog w = .ok (.bool a.isNone) w := fun w a n c n' c' => Lib.run_eql_slice_nil w _ _ a n c n' c' Tryz.underlying42
 have HC := hid hc; have H1 := hid h1; have HL := hid hl; clear hc h1 hl; go_enter Tryz.func88, Tryz.ntmps88
 go_wp2_with (at_builtin; refine wpList_append_own _ rfl _ _ 42 rfl w.heap.size 25 i0 _ 6 72 Tryz.underlying42 hi hz0 hz1 hz2 rfl (by decide) _ _ _ rfl (World.ownsRow_made w #[] 0 (Nat.le_refl _) (Nat.zero_le _) rfl) ad n c news rfl ?qc1 ?qc2 ?qc3 ?qc4 ?qc5 ?qc6 ?_)
 case qc1 => exact HL.out
 case qc2 => exact fun j u hj => Lib.cell?_alloc_some _ (HC.out j u hj)
 case qc3 => exact H1.out
 case qc4 => unfold maxLen; omega
 case qc5 => omega
 case qc6 => simp
 intro v' w1 hown hgrow hnil; have HO := hid hown; have HB := hid (show Below w.heap.size w w1 from ((Below.refl _ w).alloc (Nat.le_refl _) _).grown hgrow (by simp) (by intro k hk; simp [Value.ownBlock] at hk; omega)); clear hown hgrow hnil; go_wp2; go_ret; exact ⟨v', rfl, by simpa using HO.out, HB.out⟩
theorem jeO (n c : Nat) (w : World) :
 Calls Tryz.prog 88 #[.slice none n c] w fun e w' => e = .returned (.slice none 0 0) ∧ w' = w := by
 have q22 : ∀ (w : World) (a : Option Addr) (n c n' c' : Nat), (binOp .eql 42 (.slice a n c) (.slice none n' c')).run Tryz.prog w = .ok (.bool a.isNone) w := fun w a n c n' c' => Lib.run_eql_slice_nil w _ _ a n c n' c' Tryz.underlying42
 go_enter Tryz.func88, Tryz.ntmps88; go_wp2; go_ret; exact ⟨rfl, rfl⟩
def ClM (w : World) (l : List Mail) (e : Ending) (w' : World) : Prop := ∃ v', e = .returned v' ∧ (w'.ownsRow w.heap.size 173 3 v' l.length (l.map j9).flatten) ∧ Below w.heap.size w w'
def ClE (w : World) (l : List Ent) (e : Ending) (w' : World) : Prop := ∃ v', e = .returned v' ∧ (w'.ownsRow w.heap.size 25 6 v' l.length (l.map entC).flatten) ∧ Below w.heap.size w w'
def ClB (Q : Nat → Prop) (w : World) (l : List Bx) (e : Ending) (w' : World) : Prop := ∃ v' vm, e = .returned v' ∧ (w'.ownsRow w.heap.size 40 3 v' l.length (bxCs l vm).flatten) ∧ vm.length = l.length ∧ (∀ (i : Nat) b v, l[i]? = some b → vm[i]? = some v → MailsM Q w v b.mails) ∧ Below w.heap.size w w'
theorem jmx (l : List Mail) (v : Value) (w : World) (Q : Nat → Prop) (h : MailsM Q w v l) (hm : l.length ≤ 1000) : Calls Tryz.prog 89 #[v] w (ClM w l) := by
 obtain ⟨a, c, rfl⟩ := RowM.slice h; cases a with
 | none =>
   have hl : l = [] := by
    cases l with
    | nil => rfl
    | cons x r => obtain ⟨_, _, e, _⟩ := h.at (i := 0) (x := x) rfl; cases e
   subst hl; refine (jeP 0 c w).mono ?_; rintro e w' ⟨rfl, rfl⟩; exact ⟨_, rfl, World.ownsRow_nil _ _ _ _, Below.refl _ _⟩
 | some ad =>
   refine (jlE ad l.length c ((l.map j9).flatten) w ?_ hm ?_ (jj6 l)).mono ?_
   · rw [jad (jA (k := 3) j9 (fun _ => rfl) l), List.length_map]
   · intro j u hj; obtain ⟨i, r, cs, rfl, hr, h1, h2⟩ := jc4 (jA (k := 3) j9 (fun _ => rfl) l) hj; rw [List.getElem?_map] at h1; obtain ⟨x, hx, rfl⟩ := Option.map_eq_some_iff.1 h1; obtain ⟨b, o, e, _, c0, c1, c2⟩ := h.at hx; cases e; rw [Addr.add_lit]
     match r, hr, h2 with
     | 0, _, h2 => cases h2; simpa using c0
     | 1, _, h2 => cases h2; simpa [Nat.add_assoc] using c1
     | 2, _, h2 => cases h2; simpa [Nat.add_assoc] using c2
   · rintro e w' ⟨v', rfl, ho, hb⟩; exact ⟨v', rfl, ho, hb⟩
theorem jmw (l : List Ent) (v : Value) (w : World) (Q : Nat → Prop) (h : EntsM Q w v l) (hm : l.length ≤ 1000) : Calls Tryz.prog 88 #[v] w (ClE w l) := by
 obtain ⟨a, c, rfl⟩ := RowM.slice h; cases a with
 | none =>
   have hl : l = [] := by
    cases l with
    | nil => rfl
    | cons x r => obtain ⟨_, _, e, _⟩ := h.at (i := 0) (x := x) rfl; cases e
   subst hl; refine (jeO 0 c w).mono ?_; rintro e w' ⟨rfl, rfl⟩; exact ⟨_, rfl, World.ownsRow_nil _ _ _ _, Below.refl _ _⟩
 | some ad =>
   refine (jlD ad l.length c ((l.map entC).flatten) w ?_ hm ?_ (jlP l)).mono ?_
   · rw [jad (jA (k := 6) entC (fun _ => rfl) l), List.length_map]
   · intro j u hj; obtain ⟨i, r, cs, rfl, hr, h1, h2⟩ := jc4 (jA (k := 6) entC (fun _ => rfl) l) hj; rw [List.getElem?_map] at h1; obtain ⟨x, hx, rfl⟩ := Option.map_eq_some_iff.1 h1; obtain ⟨b, o, e, _, c0, c1, c2, c3, c4, c5⟩ := h.at hx; cases e; rw [Addr.add_lit]
     match r, hr, h2 with
     | 0, _, h2 => cases h2; simpa using c0
     | 1, _, h2 => cases h2; simpa [Nat.add_assoc] using c1
     | 2, _, h2 => cases h2; simpa [Nat.add_assoc] using c2
     | 3, _, h2 => cases h2; simpa [Nat.add_assoc] using c3
     | 4, _, h2 => cases h2; simpa [Nat.add_assoc] using c4
     | 5, _, h2 => cases h2; simpa [Nat.add_assoc] using c5
   · rintro e w' ⟨v', rfl, ho, hb⟩; exact ⟨v', rfl, ho, hb⟩
theorem jmv (l : List Bx) (v : Value) (w : World) (Q : Nat → Prop) (h : BoxsM Q w v l) (hm : l.length ≤ 1000) : Calls Tryz.prog 87 #[v] w (ClB Q w l) := by
 obtain ⟨a, c, rfl⟩ := RowM.slice h; cases a with
 | none =>
   have hl : l = [] := by
    cases l with
    | nil => rfl
    | cons x r => obtain ⟨_, _, _, e, _⟩ := h.at (i := 0) (x := x) rfl; cases e
   subst hl; refine (jeN 0 c w).mono ?_; rintro e w' ⟨rfl, rfl⟩; exact ⟨_, [], rfl, World.ownsRow_nil _ _ _ _, rfl, fun i b v hb => by simp at hb, Below.refl _ _⟩
 | some ad =>
   have hvm : ∀ (i : Nat) x, l[i]? = some x → ∃ v, ((List.range l.length).map fun i => (w.cell? (ad.add (i * 3 + 2))).getD (.slice none 0 0))[i]? = some v ∧ MailsM Q w v x.mails ∧ ∀ r u, (boxC x v)[r]? = some u → w.cell? (ad.add (i * 3 + r)) = some u := by
    intro i x hx; have hi : i < l.length := (List.getElem?_eq_some_iff.1 hx).1; obtain ⟨b, o, v, e, _, c0, c1, c2, hM⟩ := h.at hx; cases e; refine ⟨v, ?_, hM, ?_⟩
    · rw [List.getElem?_map, List.getElem?_range hi]; simp only [Option.map_some, Addr.add_lit]; rw [← Nat.add_assoc, c2]; rfl
    · intro r u hu; have hr : r < 3 := (List.getElem?_eq_some_iff.1 hu).1; rw [Addr.add_lit]
      match r, hr, hu with
      | 0, _, h2 => cases h2; simpa using c0
      | 1, _, h2 => cases h2; simpa [Nat.add_assoc] using c1
      | 2, _, h2 => cases h2; simpa [Nat.add_assoc] using c2
   have hlen : ((List.range l.length).map fun i => (w.cell? (ad.add (i * 3 + 2))).getD (.slice none 0 0)).length = l.length := by simp
   generalize ((List.range l.length).map fun i => (w.cell? (ad.add (i * 3 + 2))).getD (.slice none 0 0)) = vm at hvm hlen; have hcs : ∀ (i : Nat) cs, (bxCs l vm)[i]? = some cs → ∃ x v, l[i]? = some x ∧ vm[i]? = some v ∧ cs = boxC x v := by
    intro i cs hc; have hi : i < l.length := by rw [← jcV l vm hlen]; exact (List.getElem?_eq_some_iff.1 hc).1
    have hx : l[i]? = some l[i] := List.getElem?_eq_getElem hi; obtain ⟨v, hv, _⟩ := hvm i _ hx; rw [vz l vm i _ v hx hv] at hc; cases hc; exact ⟨_, v, hx, hv, rfl⟩
   refine (jlC ad l.length c ((bxCs l vm).flatten) w ?_ hm ?_ ?_).mono ?_
   · rw [jad (zO l vm), jcV l vm hlen]
   · intro j u hj; obtain ⟨i, r, cs, rfl, hr, h1, h2⟩ := jc4 (zO l vm) hj; obtain ⟨x, v, hx, hv, rfl⟩ := hcs i cs h1; obtain ⟨v', hv', _, hc⟩ := hvm i x hx; rw [hv] at hv'; cases hv'; exact hc r u h2
   · intro u hu; obtain ⟨cs, hcs', hu⟩ := List.mem_flatten.1 hu; obtain ⟨i, hi, rfl⟩ := List.getElem_of_mem hcs'; obtain ⟨x, v, hx, hv, e⟩ := hcs i _ (List.getElem?_eq_getElem hi); obtain ⟨v', hv', hM, _⟩ := hvm i x hx; rw [hv] at hv'; cases hv'; obtain ⟨a, c, rfl⟩ := RowM.slice hM; rw [e] at hu; simp only [boxC, List.mem_cons, List.not_mem_nil, or_false] at hu
     rcases hu with rfl | rfl | rfl <;> rfl
   · rintro e w' ⟨v', rfl, ho, hb⟩; refine ⟨v', vm, rfl, ho, hlen, ?_, hb⟩; intro i b v hb' hv; obtain ⟨v', hv', hM, _⟩ := hvm i b hb'; rw [hv] at hv'; cases hv'; exact hM
end Go.Proofs.YtgooljlpffnaeaaGreatDoor
