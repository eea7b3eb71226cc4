/-
  What who.inAtom, isAtom, isDotted, Check and Part do: the walks.
  What who.Check does: the walk.
-/
import Derived.Test.YtaapmpchcfcniaaGreatDoorRows
import Derived.Test.YtaapmpchcfcniaaGreatDoorYQJudCrs5
import Derived.Test.YtaapmpchcfcniaaGreatDoorYQCodPur6
import Derived.Test.YtaapmpchcfcniaaGreatDoorShelf
import Derived.Lib.IndexAny
import Derived.Lib.IndexLaws
namespace Go.Proofs.YtaapmpchcfcniaaGreatDoor
open Go.RowKit
def jmQ : Value → ByteArray | .string s => s | _ => ⟨#[]⟩
def marksT : ByteArray := ⟨#[33, 35, 36, 37, 38, 39, 42, 43, 45, 47, 61, 63, 94, 95, 96, 123, 124, 125, 126]⟩
theorem jgg : marksT.data.toList = marksL := rfl
set_option maxHeartbeats 1000000 in
theorem vK (c : UInt8) (w : World) :
    Calls Tryz.prog 155 #[.int .u8 c.toNat] w fun e w' => e = .returned (.bool (qk c)) ∧ w' = w := by
  have hu := c.toNat_lt; have hidx : Hid (decide (0 ≤ Lib.indexByte marksT.data.toList ((c.toNat : Int)).toNat.toUInt8) = marksL.contains c) := by
    unfold Hid; rw [jfG, jgg, ← Lib.contains_iff_indexByte]
  by_cases h1 : 97 ≤ c.toNat ∧ c.toNat ≤ 122
  · obtain ⟨a1, a2⟩ := h1; have HA : Hid (qk c = true) := by unfold Hid qk; simp [a1, a2]
    have b1 : (97 : Int) ≤ (c.toNat : Int) := by omega
    have b2 : (c.toNat : Int) ≤ 122 := by omega
    clear hidx; go_enter Tryz.func155, Tryz.ntmps155; go_wp2; go_ret; exact ⟨jg HA.out.symm, rfl⟩
  by_cases h2 : 65 ≤ c.toNat ∧ c.toNat ≤ 90
  · obtain ⟨a1, a2⟩ := h2; have HA : Hid (qk c = true) := by unfold Hid qk; simp [a1, a2]
    have b0 : ¬ (97 : Int) ≤ (c.toNat : Int) := by omega
    have b1 : (65 : Int) ≤ (c.toNat : Int) := by omega
    have b2 : (c.toNat : Int) ≤ 90 := by omega
    clear hidx; go_enter Tryz.func155, Tryz.ntmps155; go_wp2; go_ret; exact ⟨jg HA.out.symm, rfl⟩
  by_cases h3 : 48 ≤ c.toNat ∧ c.toNat ≤ 57
  · obtain ⟨a1, a2⟩ := h3; have HA : Hid (qk c = true) := by unfold Hid qk; simp [a1, a2]
    have b0 : ¬ (97 : Int) ≤ (c.toNat : Int) := by omega
    have b3 : ¬ (65 : Int) ≤ (c.toNat : Int) := by omega
    have b1 : (48 : Int) ≤ (c.toNat : Int) := by omega
    have b2 : (c.toNat : Int) ≤ 57 := by omega
    clear hidx; go_enter Tryz.func155, Tryz.ntmps155; go_wp2; go_ret; exact ⟨jg HA.out.symm, rfl⟩
  have HA : Hid (qk c = marksL.contains c) := by
    unfold Hid qk; have e1 : (decide (97 ≤ c.toNat) && decide (c.toNat ≤ 122)) = false := by simp; omega
    have e2 : (decide (65 ≤ c.toNat) && decide (c.toNat ≤ 90)) = false := by simp; omega
    have e3 : (decide (48 ≤ c.toNat) && decide (c.toNat ≤ 57)) = false := by simp; omega
    rw [e1, e2, e3]; rfl
  have p1 : (97 : Int) ≤ (c.toNat : Int) → ¬ (c.toNat : Int) ≤ 122 := by omega
  have p2 : (65 : Int) ≤ (c.toNat : Int) → ¬ (c.toNat : Int) ≤ 90 := by omega
  have p3 : (48 : Int) ≤ (c.toNat : Int) → ¬ (c.toNat : Int) ≤ 57 := by omega
  clear h1 h2 h3; go_enter Tryz.func155, Tryz.ntmps155; go_wp2_with fail
  all_goals
    refine (indexByte_any marksT c.toNat _).mono ?_; rintro e u ⟨rfl, rfl⟩; go_wp2; go_ret; refine ⟨jg ?_, rfl⟩; rw [HA.out, ← hidx.out]
    simp
theorem jcK {l : List UInt8} {k : Nat} {c : UInt8} (f : UInt8 → Bool) (h : l[k]? = some c) : (l.take (k + 1)).all f = ((l.take k).all f && f c) := by
  rw [qt h]; simp
set_option maxHeartbeats 1000000 in
theorem jcq (s : ByteArray) (w : World) (hs : s.size ≤ maxLen) :
    Calls Tryz.prog 122 #[.string s] w fun e w' => e = .returned (.bool (jaf s.data.toList)) ∧ w' = w := by
  unfold maxLen at hs; go_enter Tryz.func122, Tryz.ntmps122; go_wp2
  go_loopw [6] (fun i wr => ∃ k : Nat, k ≤ s.size ∧ i = .int .i64 k ∧ Hid ((s.data.toList.take k).all qk = true) ∧ wr = w) (fun i _ => s.size - (intOf i).toNat)
  case atStart => exact ⟨0, Nat.zero_le _, rfl, rfl, rfl⟩
  case round =>
    obtain ⟨k, hk, rfl, HT, rfl⟩ := hrel
    by_cases hlt : k < s.size
    · have hg := qA s k hlt; have HS : Hid _ := jcK qk hg; cases ha : qk s[k] with
      | true =>
        have HN : Hid ((s.data.toList.take (k + 1)).all qk = true) := by unfold Hid; rw [HS.out, HT.out, ha]; rfl
        clear HS hg; have HA : Hid _ := ha; clear ha; go_wp2_with fail; refine (vK s[k] _).mono ?_; rintro e u ⟨rfl, hu⟩; have hu' := hu.symm; subst hu'; rw [HA.out]; go_wp2
        go_roundw
        case rel => first | exact ⟨k + 1, by omega, by go_num, HN, by first | rfl | trivial⟩ | ((repeat apply Exists.intro); exact ⟨⟨k + 1, by omega, by go_num, HN, by first | rfl | trivial⟩, rfl⟩) | (refine ⟨trivial, ?_⟩; (repeat apply Exists.intro); exact ⟨⟨k + 1, by omega, by go_num, HN, by first | rfl | trivial⟩, rfl⟩)
        case measure => simp [intOf]; omega
      | false =>
        have HN : Hid (jaf s.data.toList = false) := by
          unfold Hid jaf; have : s.data.toList.all qk = false := by
            rw [List.all_eq_false]; exact ⟨s[k], List.mem_of_getElem? hg, by simp [ha]⟩
          rw [this]; simp
        clear HS hg; have HA : Hid _ := ha; clear ha; go_wp2_with fail; refine (vK s[k] _).mono ?_; rintro e u ⟨rfl, hu⟩; have hu' := hu.symm; subst hu'; rw [HA.out]; go_wp2; go_ret; exact ⟨jg HN.out.symm, rfl⟩
    · have hk' : k = s.size := by omega
      have HE : Hid (jaf s.data.toList = !(s.toList == [])) := by
        unfold Hid jaf; have := HT.out; rw [hk', ← size_list, List.take_length] at this; rw [this, Lib.toList_data]; cases s.data.toList <;> rfl
      go_wp2; go_ret; refine ⟨jg ?_, rfl⟩; rw [HE.out]
      first | rfl | simp
theorem jg7 {l : List UInt8} {c : UInt8} (h : Lib.indexByte l c = -1) : c ∉ l ∧ Lib.cut l [c] = (l, [], false) := by
  constructor
  · intro hm; obtain ⟨k, hk⟩ := List.getElem?_of_mem hm; exact Lib.indexByte_none h k hk
  · unfold Lib.cut; rw [Lib.index_one, h]; rfl
theorem jg8 {l : List UInt8} {c : UInt8} {i : Nat} (h : Lib.indexByte l c = i) : c ∉ l.take i ∧ i < l.length ∧ l = l.take i ++ c :: l.drop (i + 1) ∧ Lib.cut l [c] = (l.take i, l.drop (i + 1), true) := by
  obtain ⟨h1, h2⟩ := Lib.indexByte_some h; obtain ⟨hi, he⟩ := List.getElem?_eq_some_iff.1 h1; refine ⟨?_, hi, ?_, ?_⟩
  · intro hm; obtain ⟨k, hk⟩ := List.getElem?_of_mem hm; rw [List.getElem?_take] at hk; split at hk
    · exact h2 k (by assumption) hk
    · cases hk
  · conv => lhs; rw [← List.take_append_drop i l, List.drop_eq_getElem_cons hi, he]
  · unfold Lib.cut; rw [Lib.index_one, h, if_pos (by omega)]
    simp
set_option maxHeartbeats 2000000 in
theorem zX (s : ByteArray) (w : World) (hs : s.size ≤ maxLen) :
    Calls Tryz.prog 79 #[.string s] w fun e w' => e = .returned (.bool (j0 s.data.toList)) ∧ ∃ n, w' = w.drewN n := by
  unfold maxLen at hs; go_enter Tryz.func79, Tryz.ntmps79; go_wp2
  go_loopw [0] (fun x wr => ∃ (t : ByteArray) (n : Nat), x = .string t ∧ t.size ≤ 9223372036854775807 ∧ Hid (t.size ≤ maxLen) ∧ Hid (j0 s.data.toList = j0 t.data.toList) ∧ wr = w.drewN n) (fun x _ => (jmQ x).size)
  case atStart => exact ⟨s, 0, rfl, by omega, by unfold Hid maxLen; exact hs, rfl, rfl⟩
  case round =>
    obtain ⟨t, n, rfl, ht, HL, HD, rfl⟩ := hrel
    by_cases hi : Lib.indexByte t.data.toList 46 = -1
    · obtain ⟨h1, h2⟩ := jg7 hi; have HC : Hid _ := h2; have HE : Hid (j0 t.data.toList = jaf t.data.toList) := vw h1; clear hi h1 h2; go_wp2_with fail; refine (cut1_any t 46 _ ht).mono ?_; rintro e u ⟨rfl, n2, hu⟩; have hu' := hu.symm; subst hu'; rw [HC.out]; go_wp2_with fail; refine (jcq _ _ ?hl).mono ?_
      case hl => show (S t.data.toList).size ≤ _; rw [qe]; exact HL.out
      rintro e u2 ⟨rfl, hu2⟩; have hu2' := hu2.symm; subst hu2'; cases ha : jaf t.data.toList with
      | true =>
        have HA : Hid _ := ha; clear ha
        try rw [HA.out]
        go_wp2; go_ret; exact ⟨jg (by rw [HD.out, HE.out, HA.out]), _, rfl⟩
      | false =>
        have HA : Hid _ := ha; clear ha
        try rw [HA.out]
        go_wp2; go_ret; exact ⟨jg (by rw [HD.out, HE.out, HA.out]), _, rfl⟩
    · have hge := Lib.indexByte_ge t.data.toList 46; obtain ⟨i, hi'⟩ : ∃ i : Nat, Lib.indexByte t.data.toList 46 = i := ⟨(Lib.indexByte t.data.toList 46).toNat, by omega⟩; obtain ⟨h1, hil, h3, h2⟩ := jg8 hi'; have HC : Hid _ := h2; have HE : Hid (j0 t.data.toList = (jaf (t.data.toList.take i) && j0 (t.data.toList.drop (i + 1)))) := by
        unfold Hid
        conv => lhs; rw [h3]
        exact jck h1 _
      have HZ1 : Hid ((S (t.data.toList.take i)).size ≤ maxLen) := by
        unfold Hid; rw [jt]; have := HL.out; rw [← size_list] at this; exact Nat.le_trans (List.length_take_le' _ _) this
      have hz2 : (S (t.data.toList.drop (i + 1))).size < t.size := by
        rw [jt, ← size_list, List.length_drop]; omega
      clear hi hge hi' h1 h2 h3 hil; go_wp2_with fail; refine (cut1_any t 46 _ ht).mono ?_; rintro e u ⟨rfl, n2, hu⟩; have hu' := hu.symm; subst hu'; rw [HC.out]; go_wp2_with fail; refine (jcq _ _ ?hl).mono ?_
      case hl => exact HZ1.out
      rintro e u2 ⟨rfl, hu2⟩; have hu2' := hu2.symm; subst hu2'; cases ha : jaf (t.data.toList.take i) with
      | true =>
        have HA : Hid _ := ha; clear ha
        try rw [HA.out]
        go_wp2
        go_roundw
        case rel => first | exact ⟨S (t.data.toList.drop (i + 1)), n + n2, rfl, by omega, by unfold Hid; have := HL.out; omega, by unfold Hid; rw [HD.out, HE.out, HA.out, jp]; rfl, rfl⟩ | ((repeat apply Exists.intro); exact ⟨⟨S (t.data.toList.drop (i + 1)), n + n2, rfl, by omega, by unfold Hid; have := HL.out; omega, by unfold Hid; rw [HD.out, HE.out, HA.out, jp]; rfl, rfl⟩, rfl⟩) | (refine ⟨trivial, ?_⟩; (repeat apply Exists.intro); exact ⟨⟨S (t.data.toList.drop (i + 1)), n + n2, rfl, by omega, by unfold Hid; have := HL.out; omega, by unfold Hid; rw [HD.out, HE.out, HA.out, jp]; rfl, rfl⟩, rfl⟩)
        case measure => exact hz2
      | false =>
        have HA : Hid _ := ha; clear ha
        try rw [HA.out]
        go_wp2; go_ret; exact ⟨jg (by rw [HD.out, HE.out, HA.out]; rfl), _, rfl⟩
end Go.Proofs.YtaapmpchcfcniaaGreatDoor
namespace Go.Proofs.YtaapmpchcfcniaaGreatDoor
open Go.RowKit
set_option maxHeartbeats 2000000 in
theorem zU (l d : ByteArray) (w : World) (hl : l.size ≤ 140737488355328) (hd : d.size ≤ 140737488355328) :
    Calls Tryz.prog 45 #[.agg #[.string l, .string d]] w fun e w' => e = .returned (.int .i64 (jN l.data.toList d.data.toList)) ∧ Below w.heap.size w w' := by
  have H1 : Hid (l.size ≤ maxLen) := by unfold Hid maxLen; omega
  have H2 : Hid (d.size ≤ maxLen) := by unfold Hid maxLen; omega
  have HC : Hid (jN l.data.toList d.data.toList = if (j0 l.data.toList && j0 d.data.toList) = false then 3 else if 100 < l.size + 1 + d.size then 1 else 0) := by
    unfold Hid jN; rw [size_list, size_list]
  have hN : Below w.heap.size w (w.alloc (.cells #[.string l, .string d] 29)) := (Below.refl _ _).alloc (Nat.le_refl _) _; have HN : Hid _ := hN; clear hN; cases h1 : j0 l.data.toList with
  | false =>
    rw [h1] at HC; have HE : Hid _ := h1; clear h1; go_enter Tryz.func45, Tryz.ntmps45; go_wp2_with fail; refine (zX l _ H1.out).mono ?_; rintro e u ⟨rfl, n, hu⟩; have hu' := hu.symm; subst hu'; rw [HE.out]; go_wp2; go_ret; exact ⟨ji (by rw [HC.out]; rfl), jcf HN.out _⟩
  | true =>
    rw [h1] at HC; have HE : Hid _ := h1; clear h1; have hc : ∀ n, ((w.alloc (.cells #[.string l, .string d] 29)).drewN n).cell? ⟨w.heap.size, 1, none⟩ = some (.string d) := fun n => by
      show (w.alloc _).cell? _ = _; simp
    cases h2 : j0 d.data.toList with
    | false =>
      rw [h2] at HC; have HF : Hid _ := h2; clear h2; go_enter Tryz.func45, Tryz.ntmps45; go_wp2_with fail; refine (zX l _ H1.out).mono ?_; rintro e u ⟨rfl, n, hu⟩; have hu' := hu.symm; subst hu'; rw [HE.out]; have hc1 := hc n; go_wp2_with fail; refine (zX d _ H2.out).mono ?_; rintro e u2 ⟨rfl, n2, hu2⟩; have hu2' := hu2.symm; subst hu2'; rw [HF.out]; go_wp2; go_ret; exact ⟨ji (by rw [HC.out]; rfl), by first | exact jcf (jcf HN.out _) _ | exact jcf HN.out _⟩
    | true =>
      rw [h2] at HC; have HF : Hid _ := h2; clear h2; have hc0 : ∀ n m, (((w.alloc (.cells #[.string l, .string d] 29)).drewN n).drewN m).cell? ⟨w.heap.size, 0, none⟩ = some (.string l) := fun n m => by
        show (w.alloc _).cell? _ = _; simp
      have hc2 : ∀ n m, (((w.alloc (.cells #[.string l, .string d] 29)).drewN n).drewN m).cell? ⟨w.heap.size, 1, none⟩ = some (.string d) := fun n m => by
        show (w.alloc _).cell? _ = _; simp
      go_enter Tryz.func45, Tryz.ntmps45; go_wp2_with fail; refine (zX l _ H1.out).mono ?_; rintro e u ⟨rfl, n, hu⟩; have hu' := hu.symm; subst hu'; rw [HE.out]; have hc1 := hc n; go_wp2_with fail; refine (zX d _ H2.out).mono ?_; rintro e u2 ⟨rfl, n2, hu2⟩; have hu2' := hu2.symm; subst hu2'; rw [HF.out]; have d0 := hc0 n n2; have d1 := hc2 n n2; clear hc0 hc2 hc
      by_cases hz : 100 < l.size + 1 + d.size
      · have hz' : (100 : Int) < (l.size : Int) + 1 + (d.size : Int) := by omega
        rw [if_pos hz] at HC; clear hz; go_wp2; go_ret; exact ⟨ji (by rw [HC.out]; rfl), by first | exact jcf (jcf HN.out _) _ | exact jcf HN.out _⟩
      · have hz' : ¬ (100 : Int) < (l.size : Int) + 1 + (d.size : Int) := by omega
        rw [if_neg hz] at HC; clear hz; go_wp2; go_ret; exact ⟨ji (by rw [HC.out]; rfl), by first | exact jcf (jcf HN.out _) _ | exact jcf HN.out _⟩
def jac (k : Int) (l d : List UInt8) : List UInt8 × Int :=
  if jN l d ≠ 0 then ([], jN l d) else if k = 1 then (l ++ 64 :: d, 0) else if k = 2 then (l, 0) else if k = 3 then (d, 0) else ([], 2)
theorem jkS (l d : ByteArray) : l ++ ⟨#[64]⟩ ++ d = S (l.data.toList ++ 64 :: d.data.toList) := by
  rw [← qe (l ++ ⟨#[64]⟩ ++ d)]
  simp
theorem jcj {l d : List UInt8} (h : jN l d = 0) : l.length + 1 + d.length ≤ 100 := by
  unfold jN at h; split at h
  · cases h
  · split at h
    · cases h
    · omega
end Go.Proofs.YtaapmpchcfcniaaGreatDoor
