/-
  What the reference's flagBit and FlagsOf do: the walks.
-/
import Derived.Test.YtnjlakengbhokaaDoorRulPurX
import Derived.Test.YtnjlakengbhokaaDoorRulCs
namespace Go.Proofs.YtnjlakengbhokaaDoor
open Go.RowKit Go.Proofs

theorem flag_key (s l : List UInt8) : ((S s).toList == l) = decide (l = s) := by
  rw [Lib.toList_data, list_S]
  by_cases h : l = s
  · subst h; simp
  · have : ¬ s = l := fun e => h e.symm
    simp [h, this]
set_option maxHeartbeats 4000000 in
set_option maxRecDepth 100000 in
theorem flagBit_any (s : List UInt8) (w : World) :
    Calls Tryd.prog 21 #[.string (S s)] w fun e w' => e = .returned (.int .i64 (flagP s : Nat)) ∧ w' = w := by
  go_enter Tryd.func21, Tryd.ntmps21
  go_wp2
  all_goals
    go_ret
    refine ⟨ret_int ?_, rfl⟩
    simp only [flag_key, decide_eq_true_eq, decide_eq_false_iff_not] at *
    unfold flagP flagTab
    simp only [flagIn]
    simp [*]
/- Which flags stand in a list, bit by bit. -/
def hasB (k : Nat) (l : List (List UInt8)) : Bool := l.any fun s => decide (flagP s = 2 ^ k)
def outK : Nat → List (List UInt8) → Nat
  | 0, _ => 0
  | k + 1, l => outK k l + (if hasB k l then 2 ^ k else 0)
def numB (a b c d e : Bool) : Nat := (if a then 1 else 0) + (if b then 2 else 0) + (if c then 4 else 0) + (if d then 8 else 0) + (if e then 16 else 0)
theorem out5 (l : List (List UInt8)) : outK 5 l = numB (hasB 0 l) (hasB 1 l) (hasB 2 l) (hasB 3 l) (hasB 4 l) := by
  simp [outK, numB]
theorem num_step : ∀ a b c d e : Bool, (1 ||| numB a b c d e = numB true b c d e) ∧ (2 ||| numB a b c d e = numB a true c d e) ∧ (4 ||| numB a b c d e = numB a b true d e) ∧ (8 ||| numB a b c d e = numB a b c true e) ∧ (16 ||| numB a b c d e = numB a b c d true) := by decide
theorem flag_five {s : List UInt8} (h : flagP s ≠ 0) : flagP s = 1 ∨ flagP s = 2 ∨ flagP s = 4 ∨ flagP s = 8 ∨ flagP s = 16 := by
  unfold flagP flagTab at h ⊢
  simp only [flagIn] at h ⊢
  split <;> (try split) <;> (try split) <;> (try split) <;> (try split) <;> simp_all
theorem or_step (l : List (List UInt8)) (k : Nat) : l.foldl (fun a s => a ||| flagP s) k = k ||| l.foldl (fun a s => a ||| flagP s) 0 := by
  induction l generalizing k with
  | nil => simp
  | cons x l ih => rw [List.foldl_cons, List.foldl_cons, ih (k ||| flagP x), ih (0 ||| flagP x), Nat.zero_or, Nat.or_assoc]
theorem or_out : ∀ l : List (List UInt8), (∀ s ∈ l, flagP s ≠ 0) → l.foldl (fun a s => a ||| flagP s) 0 = outK 5 l := by
  intro l
  induction l with
  | nil => intro _; rfl
  | cons x l ih =>
    intro h
    rw [List.foldl_cons, or_step, ih fun s hs => h s (by simp [hs]), Nat.zero_or, out5, out5]
    have hb : ∀ k, hasB k (x :: l) = (decide (flagP x = 2 ^ k) || hasB k l) := fun k => rfl
    rw [hb, hb, hb, hb, hb]
    obtain ⟨n1, n2, n3, n4, n5⟩ := num_step (hasB 0 l) (hasB 1 l) (hasB 2 l) (hasB 3 l) (hasB 4 l)
    rcases flag_five (h x (by simp)) with e | e | e | e | e <;> rw [e]
    · rw [n1]; simp
    · rw [n2]; simp
    · rw [n3]; simp
    · rw [n4]; simp
    · rw [n5]; simp
theorem outK_le : ∀ (k : Nat) (l : List (List UInt8)), k ≤ 5 → outK k l ≤ 31 := by
  intro k l hk
  have : ∀ k, outK k l + 1 ≤ 2 ^ k := by
    intro k
    induction k with
    | zero => simp [outK]
    | succ k ih => simp only [outK]; rw [Nat.pow_succ]; split <;> omega
  have h1 := this k
  have h2 : 2 ^ k ≤ 2 ^ 5 := Nat.pow_le_pow_right (by omega) hk
  omega

set_option maxHeartbeats 8000000 in
set_option maxRecDepth 100000 in
theorem flagsOf_any (l : List (List UInt8)) (a : Option Addr) (c : Nat) (w : World) (hT : TxtsM anyB w (.slice a l.length c) l) :
    Calls Tryd.prog 11 #[.slice a l.length c] w fun e w' => e = .returned (flagsT (flagsP l)) ∧ w' = w := by
  have HT := hid hT
  have hlm := hT.small
  unfold maxLen at hlm
  have HTX := hid (show ∀ (i : Nat) (x : List UInt8), l[i]? = some x → ∃ b o, a = some ⟨b, o, none⟩ ∧ w.cell? ⟨b, o + i, none⟩ = some (.string (S x)) from fun i x hx => by
    obtain ⟨a', c', hv, _, hr⟩ := HT.out
    simp only [Value.slice.injEq, true_and] at hv
    obtain ⟨rfl, rfl⟩ := hv
    obtain ⟨b, o, cs, rfl, hbl, _, _, hc, hP⟩ := hr i x hx
    have hcs : cs = [.string (S x)] := hP
    subst hcs
    exact ⟨b, o, rfl, by simpa using hc 0 _ rfl⟩)
  clear hT HT
  go_enter Tryd.func11, Tryd.ntmps11
  go_wp2
  go_loopw [4, 5] (fun f v wr => ∃ k : Nat, k ≤ 5 ∧ f = .int .i64 (outK k l : Nat) ∧ v = .int .i64 ((2 ^ k : Nat) : Int) ∧ wr = w) (fun _ v _ => 33 - (intOf v).toNat)
  case atStart => exact ⟨0, by omega, rfl, rfl, rfl⟩
  case round =>
    obtain ⟨k, hk, rfl, rfl, rfl⟩ := hrel
    obtain ⟨wo, hwo⟩ : ∃ wo, wo = wr := ⟨_, rfl⟩
    subst hwo
    by_cases hk5 : k < 5
    · obtain ⟨bv, hbv⟩ : ∃ bv : Nat, bv = 2 ^ k := ⟨_, rfl⟩
      have h16 : bv ≤ 16 := by
        have : 2 ^ k ≤ 2 ^ 4 := Nat.pow_le_pow_right (by omega) (by omega)
        omega
      have hb0 : 0 < bv := by rw [hbv]; exact Nat.pow_pos (by omega)
      have h16' : (bv : Int) ≤ 16 := by omega
      obtain ⟨ov, hov⟩ : ∃ ov : Nat, ov = outK k l := ⟨_, rfl⟩
      have h31 : ov ≤ 31 := by rw [hov]; exact outK_le k l hk
      have HNX := hid (show (2 ^ (k + 1) : Nat) = bv * 2 by rw [Nat.pow_succ, hbv])
      have HOV := hid hov
      have HBV := hid hbv
      rw [← hbv, ← hov]
      clear hbv hov
      go_wp2
      go_loopw [4, 6] (fun f v wr => ∃ i : Nat, i ≤ l.length ∧ f = .int .i64 (ov : Nat) ∧ v = .int .i64 i ∧ wr = wo ∧ Hid (∀ s ∈ l.take i, flagP s ≠ bv)) (fun _ v _ => l.length - (intOf v).toNat)
      case atStart => exact ⟨0, Nat.zero_le _, rfl, rfl, rfl, by unfold Hid; simp⟩
      case round =>
        obtain ⟨i, hi, rfl, rfl, rfl, HI⟩ := hrel
        by_cases hlt : i < l.length
        · have i1 : (i : Int) < (l.length : Int) := by omega
          have i0 : (0 : Int) ≤ (i : Int) := by omega
          obtain ⟨x, hx⟩ : ∃ x, l[i]? = some x := ⟨_, List.getElem?_eq_getElem hlt⟩
          have HX := hid hx
          obtain ⟨b, o, rfl, e0⟩ := HTX.out i x hx
          have hfl := flagP_lt x
          clear hx
          go_wp2_with fail
          refine (flagBit_any x _).mono ?_
          rintro e u ⟨rfl, hu⟩
          have hu' := hu.symm
          subst hu'
          clear hu
          obtain ⟨f, hf⟩ : ∃ f, f = flagP x := ⟨_, rfl⟩
          rw [← hf]
          rw [← hf] at hfl
          have HF := hid hf
          clear hf
          by_cases hf : f = 0
          · subst hf
            have HE := hid (show flagsP l = none from flagsG_none l 0 x (List.mem_of_getElem? HX.out) HF.out.symm)
            go_wp2
            go_ret2
            exact ⟨by rw [HE.out]; rfl, rfl⟩
          · have hfz : ((f : Int) == 0) = false := by simpa using hf
            clear hf
            go_wp2_with fail
            refine (flagBit_any x _).mono ?_
            rintro e u ⟨rfl, hu⟩
            have hu' := hu.symm
            subst hu'
            clear hu
            rw [← HF.out]
            by_cases hfb : f = bv
            · have hq : ((f : Int) == (bv : Int)) = true := by rw [hfb]; simp
              have HO := hid (show outK (k + 1) l = ov + bv by
                show outK k l + _ = _
                rw [if_pos, ← HOV.out, ← HBV.out]
                exact List.any_eq_true.2 ⟨x, List.mem_of_getElem? HX.out, by rw [← HF.out, hfb, HBV.out]; simp⟩)
              clear hfb
              go_wp2
              go_roundw
              case rel => exact ⟨k + 1, by omega, by rw [HO.out]; go_num, by rw [HNX.out]; go_num, by first | rfl | trivial⟩
              case measure => simp [intOf]; omega
            · have hq : ((f : Int) == (bv : Int)) = false := beq_eq_false_iff_ne.2 (by omega)
              have HI2 := hid (show ∀ s ∈ l.take (i + 1), flagP s ≠ bv from fun s hs => by
                have hi' : i < l.length := hlt
                rw [List.take_succ_eq_append_getElem hi', show l[i] = x from (List.getElem?_eq_some_iff.1 HX.out).2] at hs
                rcases List.mem_append.1 hs with h | h
                · exact HI.out s h
                · rw [List.mem_singleton.1 h, ← HF.out]; exact hfb)
              clear hfb
              go_wp2
              case roundEnd => exact ⟨⟨i + 1, by omega, by first | rfl | trivial, by go_num, by first | rfl | trivial, HI2⟩, by simp [intOf]; omega⟩
        · have i1 : ¬ (i : Int) < (l.length : Int) := by omega
          have HO := hid (show outK (k + 1) l = ov by
            show outK k l + _ = _
            rw [if_neg, ← HOV.out, Nat.add_zero]
            intro hh
            obtain ⟨s, hs, hd⟩ := List.any_eq_true.1 hh
            refine HI.out s ?_ (by rw [HBV.out]; simpa using hd)
            rw [List.take_of_length_le (by omega)]; exact hs)
          go_wp2
          go_roundw
          case rel => exact ⟨k + 1, by omega, by rw [HO.out], by rw [HNX.out]; go_num, by first | rfl | trivial⟩
          case measure => simp [intOf]; omega
    · have hk6 : k = 5 := by omega
      subst hk6
      obtain ⟨ov, hov⟩ : ∃ ov : Nat, ov = outK 5 l := ⟨_, rfl⟩
      have HOV := hid hov
      rw [← hov, show ((2 ^ 5 : Nat) : Int) = 32 from rfl]
      clear hov
      go_wp2
      go_loopw [7] (fun v wr => ∃ i : Nat, i ≤ l.length ∧ v = .int .i64 i ∧ wr = wo ∧ Hid (∀ s ∈ l.take i, flagP s ≠ 0)) (fun v _ => l.length - (intOf v).toNat)
      case atStart => exact ⟨0, Nat.zero_le _, rfl, rfl, by unfold Hid; simp⟩
      case round =>
        obtain ⟨i, hi, rfl, rfl, HI⟩ := hrel
        by_cases hlt : i < l.length
        · have i1 : (i : Int) < (l.length : Int) := by omega
          have i0 : (0 : Int) ≤ (i : Int) := by omega
          obtain ⟨x, hx⟩ : ∃ x, l[i]? = some x := ⟨_, List.getElem?_eq_getElem hlt⟩
          have HX := hid hx
          obtain ⟨b, o, rfl, e0⟩ := HTX.out i x hx
          clear hx
          go_wp2_with fail
          refine (flagBit_any x _).mono ?_
          rintro e u ⟨rfl, hu⟩
          have hu' := hu.symm
          subst hu'
          clear hu
          obtain ⟨f, hf⟩ : ∃ f, f = flagP x := ⟨_, rfl⟩
          rw [← hf]
          have HF := hid hf
          clear hf
          by_cases hf : f = 0
          · subst hf
            have HE := hid (show flagsP l = none from flagsG_none l 0 x (List.mem_of_getElem? HX.out) HF.out.symm)
            go_wp2
            go_ret2
            exact ⟨by rw [HE.out]; rfl, rfl⟩
          · have hfz : ((f : Int) == 0) = false := by simpa using hf
            have HI2 := hid (show ∀ s ∈ l.take (i + 1), flagP s ≠ 0 from fun s hs => by
              have hi' : i < l.length := hlt
              rw [List.take_succ_eq_append_getElem hi', show l[i] = x from (List.getElem?_eq_some_iff.1 HX.out).2] at hs
              rcases List.mem_append.1 hs with h | h
              · exact HI.out s h
              · rw [List.mem_singleton.1 h, ← HF.out]; exact hf)
            clear hf
            go_wp2
            case roundEnd => exact ⟨⟨i + 1, by omega, by go_num, by first | rfl | trivial, HI2⟩, by simp [intOf]; omega⟩
        · have i1 : ¬ (i : Int) < (l.length : Int) := by omega
          have HE := hid (show flagsP l = some ov by
            have hall : ∀ s ∈ l, flagP s ≠ 0 := fun s hs => HI.out s (by rw [List.take_of_length_le (by omega)]; exact hs)
            unfold flagsP
            rw [flagsG_all l 0 hall, or_out l hall, Nat.zero_or, HOV.out])
          go_wp2
          go_ret2
          exact ⟨by rw [HE.out]; rfl, rfl⟩
end Go.Proofs.YtnjlakengbhokaaDoor
