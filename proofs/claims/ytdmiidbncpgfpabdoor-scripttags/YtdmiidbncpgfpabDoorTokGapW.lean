/-
  What token.gapLength does: the walk.
-/
import Derived.Test.YtdmiidbncpgfpabDoorTokSpan
import Derived.Test.YtdmiidbncpgfpabDoorTxt
import Derived.Test.YtdmiidbncpgfpabDoorShelf
import Derived.Lib.IndexAny
namespace Go.Proofs.YtdmiidbncpgfpabDoor
open Go.RowKit Go.Proofs

def blanksS : ByteArray := ⟨#[32, 9, 13, 10]⟩
theorem blank_index (c : UInt8) : decide (0 ≤ Lib.indexByte blanksS.data.toList ((c.toNat : Int)).toNat.toUInt8) = spaceC c := by
  rw [byte_round]
  show decide (0 ≤ Lib.indexByte [32, 9, 13, 10] c) = spaceC c
  rw [← Lib.contains_iff_indexByte]
  simp only [spaceC, List.contains_cons, List.contains_nil, Bool.or_false, Bool.or_assoc]
set_option maxHeartbeats 2000000 in
theorem gap1_any (c : UInt8) (w : World) :
    Calls Tryd.prog 29 #[.int .u8 c.toNat] w fun e w' => e = .returned (.bool (spaceC c)) ∧ w' = w := by
  have HI : Hid _ := blank_index c
  go_enter Tryd.func29, Tryd.ntmps29
  go_wp2_with fail
  refine (indexByte_any blanksS (c.toNat : Int) _).mono ?_
  rintro e u ⟨rfl, hu⟩
  have hu' := hu.symm
  subst hu'
  go_wp2
  go_ret
  exact ⟨ret_bool (by rw [← HI.out]; first | rfl | simp), rfl⟩
set_option maxHeartbeats 2000000 in
theorem gap2_any (c : UInt8) (w : World) :
    Calls Tryd.prog 32 #[.int .u8 c.toNat] w fun e w' => e = .returned (.bool (c != 10)) ∧ w' = w := by
  have HI : Hid ((c != 10) = !decide ((c.toNat : Int) = 10)) := by
    unfold Hid
    by_cases h : c = 10
    · subst h; rfl
    · have : ¬ (c.toNat : Int) = 10 := fun e => h (UInt8.toNat_inj.1 (by show c.toNat = 10; omega))
      simp [h, this]
  go_enter Tryd.func32, Tryd.ntmps32
  go_wp2
  go_ret
  exact ⟨ret_bool (by rw [HI.out]; first | rfl | simp), rfl⟩
theorem entersG1 : ∀ args w, (callFunc 29 args).run Tryd.prog w = .ok (.enter 29 args) w := enters_of Tryd.func29 (by kernel_rfl) rfl
theorem entersG2 : ∀ args w, (callFunc 32 args).run Tryd.prog w = .ok (.enter 32 args) w := enters_of Tryd.func32 (by kernel_rfl) rfl
theorem span_g1 (s : List UInt8) (w : World) (hs : s.length ≤ 2000) :
    Calls Tryd.prog 28 #[.string (S s), .func (.func 29) #[] #[]] w fun e w' => e = .returned (.int .i64 ((s.takeWhile spaceC).length : Nat)) ∧ w' = w := by
  have := span_pure (S s) 29 entersG1 spaceC w (by rw [size_S]; unfold maxLen; omega) (fun c u => gap1_any c u)
  rw [list_S] at this
  exact this
theorem span_g2 (s : List UInt8) (w : World) (hs : s.length ≤ 2000) :
    Calls Tryd.prog 28 #[.string (S s), .func (.func 32) #[] #[]] w fun e w' => e = .returned (.int .i64 ((s.takeWhile (· != 10)).length : Nat)) ∧ w' = w := by
  have := span_pure (S s) 32 entersG2 (· != 10) w (by rw [size_S]; unfold maxLen; omega) (fun c u => gap2_any c u)
  rw [list_S] at this
  exact this

/- What the beginning of a text tells. -/
theorem pre_one (a : UInt8) (s : List UInt8) : Lib.hasPrefix s [a] = decide (s.head? = some a) := by
  unfold Lib.hasPrefix
  cases s with
  | nil => rfl
  | cons x t =>
    show ([a].isPrefixOf (x :: t)) = _
    by_cases h : x = a
    · subst h; simp [List.isPrefixOf]
    · simp [List.isPrefixOf, h]; exact fun e => h e.symm
theorem pre_two (a b : UInt8) (s : List UInt8) : Lib.hasPrefix s [a, b] = true ↔ ∃ u, s = a :: b :: u := by
  unfold Lib.hasPrefix
  rw [List.isPrefixOf_iff_prefix]
  constructor
  · rintro ⟨u, hu⟩; exact ⟨u, hu.symm⟩
  · rintro ⟨u, rfl⟩; exact ⟨u, rfl⟩
theorem dropW_len2 (p : UInt8 → Bool) (s : List UInt8) : (s.takeWhile p).length + (s.dropWhile p).length = s.length := by
  have := congrArg List.length (List.takeWhile_append_dropWhile (p := p) (l := s))
  rw [List.length_append] at this; exact this
theorem drop_tw (p : UInt8 → Bool) (s : List UInt8) : s.drop (s.takeWhile p).length = s.dropWhile p := by
  have := List.takeWhile_append_dropWhile (p := p) (l := s)
  conv => lhs; arg 2; rw [← this]
  rw [List.drop_left]
/-- Where the gap ends. -/
theorem sil_default {r : List UInt8} (h1 : spaceC (r.headD 0) = false) (h2 : r.head? ≠ some 35) (h3 : ∀ u, r ≠ 47 :: 42 :: u) : silM r = (true, r) := by
  cases r with
  | nil => exact silM_nil
  | cons c t =>
    have h2' : c ≠ 35 := by simpa using h2
    by_cases h4 : c = 47
    · subst h4
      refine silM_slash ?_
      cases t with
      | nil => rfl
      | cons d v =>
        show (if d = 42 then some v else none) = none
        rw [if_neg (fun e => h3 v (by rw [e]))]
    · exact silM_stop t h1 h2' h4
theorem dropW_head (s : List UInt8) : spaceC ((s.dropWhile spaceC).headD 0) = false := by
  induction s with
  | nil => decide
  | cons c t ih =>
    rw [List.dropWhile_cons]
    cases h : spaceC c with
    | true => simpa using ih
    | false => simpa using h

def gapV (s : List UInt8) : Value := .tuple #[.int .i64 (s.length - (silM s).2.length : Nat), .int .i64 (if (silM s).1 then 0 else 4)]

set_option maxHeartbeats 8000000 in
set_option maxRecDepth 100000 in
theorem gapLength_any (s : List UInt8) (w : World) (hm : maxLenCell w) (hs : s.length ≤ 2000) :
    Calls Tryd.prog 16 #[.string (S s)] w fun e w' => e = .returned (gapV s) ∧ Below w.heap.size w w' := by
  have hz : (S s).size ≤ 2000 := by rw [size_S]; exact hs
  have HS : Hid _ := hs
  have HM : Hid _ := hm
  clear hs hm
  go_enter Tryd.func16, Tryd.ntmps16
  go_wp2
  go_loopw [4] (fun i wr => ∃ k : Nat, k ≤ (S s).size ∧ i = .int .i64 k ∧ Hid (silM (s.drop k) = silM s) ∧ Hid (Below w.heap.size w wr)) (fun i _ => (S s).size - (intOf i).toNat)
  case atStart => exact ⟨0, Nat.zero_le _, rfl, rfl, Below.refl _ _⟩
  case round =>
    obtain ⟨k, hk, rfl, HQ, HB⟩ := hrel
    obtain ⟨n, hn⟩ : ∃ n, n = ((s.drop k).takeWhile spaceC).length := ⟨_, rfl⟩
    obtain ⟨r, hr⟩ : ∃ r, r = s.drop (k + n) := ⟨_, rfl⟩
    have hks : k ≤ s.length := by rw [size_S] at hk; exact hk
    have hr1 : r = (s.drop k).dropWhile spaceC := by rw [hr, ← List.drop_drop, hn, drop_tw]
    have hnl := dropW_len2 spaceC (s.drop k)
    rw [← hn, ← hr1, List.length_drop] at hnl
    have hrl : r.length ≤ 2000 := by have := HS.out; omega
    have hkn : k + n ≤ (S s).size := by rw [size_S]; omega
    have hrz : (S r).size + (k + n) = (S s).size := by rw [size_S, size_S]; omega
    have hn2 : n ≤ 2000 := by omega
    have HN : Hid _ := hn
    have HR : Hid _ := hr
    have HQ2 : Hid (silM r = silM s) := by unfold Hid; rw [hr1, silM_spaces]; exact HQ.out
    have HX1 : Hid ((S s).extract k (S s).size = S (s.drop k)) := S_drop s k
    have HX2 : Hid ((S s).extract (k + n) (S s).size = S r) := by unfold Hid; rw [S_drop, hr]
    have HL1 : Hid ((s.drop k).length ≤ 2000) := by unfold Hid; rw [List.length_drop]; have := HS.out; omega
    have HL2 : Hid (r.length ≤ 2000) := hrl
    have i1 : (0 : Int) ≤ (k : Int) := by omega
    have i2 : (k : Int) ≤ ((S s).size : Int) := by omega
    have i3 : (0 : Int) ≤ (k : Int) + (n : Int) := by omega
    have i4 : (k : Int) + (n : Int) ≤ ((S s).size : Int) := by omega
    have HC : Hid (spaceC (r.headD 0) = false) := by unfold Hid; rw [hr1]; exact dropW_head _
    have HRL : Hid (r.length + (k + n) = s.length) := by unfold Hid; omega
    have hmw := maxLenCell_below HM.out (HB.out)
    have HMW : Hid _ := hmw
    clear hn hr hr1 hnl hrl hks hmw
    by_cases h35 : ∃ t, r = 35 :: t
    · obtain ⟨t, ht⟩ := h35
      obtain ⟨m, hm⟩ : ∃ m, m = (r.takeWhile (· != 10)).length := ⟨_, rfl⟩
      have HP : Hid (Lib.hasPrefix (S r).data.toList (⟨#[35]⟩ : ByteArray).data.toList = true) := by
        unfold Hid; rw [list_S]; show Lib.hasPrefix r [35] = true; rw [pre_one, ht]; rfl
      have hm1 : 1 ≤ m := by rw [hm, ht]; show 1 ≤ ((35 :: t).takeWhile _).length; rw [List.takeWhile_cons, if_pos (by decide)]; simp
      have hml := dropW_len2 (· != 10) r
      rw [← hm] at hml
      have hm2 : m ≤ 2000 := by have := HL2.out; omega
      have hm3 : k + n + m ≤ (S s).size := by rw [size_S]; have := HRL.out; omega
      have HMM : Hid _ := hm
      have HN2 : Hid (silM (s.drop (k + n + m)) = silM s) := by
        unfold Hid
        rw [← List.drop_drop, ← HR.out, hm, drop_tw, ← HQ2.out]
        conv => rhs; rw [ht, silM_hash]
        rw [ht, List.dropWhile_cons, if_pos (by decide)]
        rfl
      clear ht hm hml
      go_wp2_with fail
      rw [HX1.out]
      refine (span_g1 (s.drop k) _ HL1.out).mono ?_
      rintro e u ⟨rfl, hu⟩
      have hu' := hu.symm
      subst hu'
      rw [← HN.out]
      go_wp2_with fail
      rw [HX2.out]
      refine (hasPrefix_any (S r) ⟨#[35]⟩ _).mono ?_
      rintro e u ⟨rfl, hu⟩
      have hu' := hu.symm
      subst hu'
      rw [HP.out]
      go_wp2_with fail
      refine (span_g2 r _ HL2.out).mono ?_
      rintro e u ⟨rfl, hu⟩
      have hu' := hu.symm
      subst hu'
      rw [← HMM.out]
      go_wp2
      go_roundw
      case rel => exact ⟨k + n + m, hm3, by go_num, HN2, HB⟩
      case measure => simp [intOf]; omega
    · have HP : Hid (Lib.hasPrefix (S r).data.toList (⟨#[35]⟩ : ByteArray).data.toList = false) := by
        unfold Hid; rw [list_S]; show Lib.hasPrefix r [35] = false; rw [pre_one, decide_eq_false_iff_not]
        intro e
        cases hr : r with
        | nil => rw [hr] at e; cases e
        | cons a t => rw [hr] at e; exact h35 ⟨t, by rw [hr]; simp at e; rw [e]⟩
      by_cases h47 : ∃ u, r = 47 :: 42 :: u
      · obtain ⟨v, hv⟩ := h47
        have HP2 : Hid (Lib.hasPrefix (S r).data.toList (⟨#[47, 42]⟩ : ByteArray).data.toList = true) := by
          unfold Hid; rw [list_S]; exact (pre_two 47 42 r).2 ⟨v, hv⟩
        have HX3 : Hid ((S r).extract 2 (S r).size = S v) := by unfold Hid; rw [S_drop, hv]; rfl
        have hvl : v.length + 2 = r.length := by rw [hv]; simp
        have HV : Hid ((S v).size < 4294967281) := by unfold Hid; rw [size_S]; have := HL2.out; omega
        have hr2 : (2 : Int) ≤ ((S r).size : Int) := by rw [size_S]; omega
        have hrz2 : (S r).size ≤ 2000 := by omega
        cases hc : comEnd v with
        | none =>
          have HK : Hid (Lib.cut (S v).data.toList (⟨#[42, 47]⟩ : ByteArray).data.toList = (v, [], false)) := by unfold Hid; rw [list_S]; exact cut_open hc
          have HF : Hid (gapV s = .tuple #[.int .i64 ((k : Int) + (n : Int)), .int .i64 4]) := by
            unfold Hid gapV
            have e1 : silM s = (false, r) := by rw [← HQ2.out, hv]; exact silM_open hc
            have e2 : ((s.length - r.length : Nat) : Int) = (k : Int) + (n : Int) := by have := HRL.out; omega
            rw [e1]
            simp only [e2]
            rfl
          clear hc hv hvl h35
          go_wp2_with fail
          rw [HX1.out]
          refine (span_g1 (s.drop k) _ HL1.out).mono ?_
          rintro e u ⟨rfl, hu⟩
          have hu' := hu.symm
          subst hu'
          rw [← HN.out]
          go_wp2_with fail
          rw [HX2.out]
          refine (hasPrefix_any (S r) ⟨#[35]⟩ _).mono ?_
          rintro e u ⟨rfl, hu⟩
          have hu' := hu.symm
          subst hu'
          rw [HP.out]
          go_wp2_with fail
          refine (hasPrefix_any (S r) ⟨#[47, 42]⟩ _).mono ?_
          rintro e u ⟨rfl, hu⟩
          have hu' := hu.symm
          subst hu'
          rw [HP2.out]
          go_wp2_with fail
          rw [HX3.out]
          refine (cutS_any (S v) ⟨#[42, 47]⟩ _ HV.out HMW.out).mono ?_
          rintro e u ⟨rfl, q, rfl⟩
          rw [HK.out]
          go_wp2
          go_ret2
          exact ⟨by rw [HF.out]; rfl, wdrew HB.out q⟩
        | some r2 =>
          obtain ⟨a, hca, hlen, hdr⟩ := cut_com hc
          have HK : Hid (Lib.cut (S v).data.toList (⟨#[42, 47]⟩ : ByteArray).data.toList = (a, r2, true)) := by unfold Hid; rw [list_S]; exact hca
          have haz : (S a).size = a.length := size_S a
          have HAZ : Hid (((⟨a.toArray⟩ : ByteArray)).size = a.length) := haz
          have hal : a.length ≤ 2000 := by have := HL2.out; omega
          have ha3 : k + n + (2 + a.length + 2) ≤ (S s).size := by rw [size_S]; have := HRL.out; omega
          have HN2 : Hid (silM (s.drop (k + n + (2 + a.length + 2))) = silM s) := by
            unfold Hid
            rw [← List.drop_drop, ← HR.out, ← HQ2.out]
            conv => rhs; rw [hv, silM_com hc]
            rw [hv, hdr]
            have e : 2 + a.length + 2 = (a.length + 2) + 1 + 1 := by omega
            rw [e]
            rfl
          clear hc hv hvl hca hlen hdr haz h35
          go_wp2_with fail
          rw [HX1.out]
          refine (span_g1 (s.drop k) _ HL1.out).mono ?_
          rintro e u ⟨rfl, hu⟩
          have hu' := hu.symm
          subst hu'
          rw [← HN.out]
          go_wp2_with fail
          rw [HX2.out]
          refine (hasPrefix_any (S r) ⟨#[35]⟩ _).mono ?_
          rintro e u ⟨rfl, hu⟩
          have hu' := hu.symm
          subst hu'
          rw [HP.out]
          go_wp2_with fail
          refine (hasPrefix_any (S r) ⟨#[47, 42]⟩ _).mono ?_
          rintro e u ⟨rfl, hu⟩
          have hu' := hu.symm
          subst hu'
          rw [HP2.out]
          go_wp2_with fail
          rw [HX3.out]
          refine (cutS_any (S v) ⟨#[42, 47]⟩ _ HV.out HMW.out).mono ?_
          rintro e u ⟨rfl, q, rfl⟩
          rw [HK.out]
          obtain ⟨A, hA⟩ : ∃ A, A = (⟨a.toArray⟩ : ByteArray) := ⟨_, rfl⟩
          simp only
          rw [← hA]
          have hAz : A.size = a.length := by rw [hA]; exact HAZ.out
          have HA : Hid _ := hA
          clear hA
          go_wp2
          go_roundw
          case rel => exact ⟨k + n + (2 + a.length + 2), ha3, by go_num, HN2, wdrew HB.out q⟩
          case measure => simp [intOf]; omega
      · have HP2 : Hid (Lib.hasPrefix (S r).data.toList (⟨#[47, 42]⟩ : ByteArray).data.toList = false) := by
          unfold Hid; rw [list_S]
          cases e : Lib.hasPrefix r [47, 42] with
          | false => rfl
          | true => exact absurd ((pre_two 47 42 r).1 e) h47
        have HF : Hid (gapV s = .tuple #[.int .i64 ((k : Int) + (n : Int)), .int .i64 0]) := by
          unfold Hid gapV
          have e1 : silM s = (true, r) := by
            rw [← HQ2.out]
            refine sil_default HC.out ?_ (fun u e => h47 ⟨u, e⟩)
            intro e
            cases hr : r with
            | nil => rw [hr] at e; cases e
            | cons a t => rw [hr] at e; exact h35 ⟨t, by rw [hr]; simp at e; rw [e]⟩
          have e2 : ((s.length - r.length : Nat) : Int) = (k : Int) + (n : Int) := by have := HRL.out; omega
          rw [e1]
          simp only [e2]
          rfl
        clear h35 h47
        go_wp2_with fail
        rw [HX1.out]
        refine (span_g1 (s.drop k) _ HL1.out).mono ?_
        rintro e u ⟨rfl, hu⟩
        have hu' := hu.symm
        subst hu'
        rw [← HN.out]
        go_wp2_with fail
        rw [HX2.out]
        refine (hasPrefix_any (S r) ⟨#[35]⟩ _).mono ?_
        rintro e u ⟨rfl, hu⟩
        have hu' := hu.symm
        subst hu'
        rw [HP.out]
        go_wp2_with fail
        refine (hasPrefix_any (S r) ⟨#[47, 42]⟩ _).mono ?_
        rintro e u ⟨rfl, hu⟩
        have hu' := hu.symm
        subst hu'
        rw [HP2.out]
        go_wp2
        go_ret2
        exact ⟨by rw [HF.out]; rfl, HB.out⟩
end Go.Proofs.YtdmiidbncpgfpabDoor
