/-
  What the reference's small functions on letters do (nameMay, blank, trimmed, lineEnd, colonAt): the walks.
-/
import Derived.Test.YtgbhaphgojlhaaaDoorLetName
import Derived.Test.YtgbhaphgojlhaaaDoorLetParse
namespace Go.Proofs.YtgbhaphgojlhaaaDoor
open Go.RowKit

set_option maxHeartbeats 400000 in
theorem inR_any (n a b : Int) (w : World) :
    Calls Tryd.prog 60 #[.int .i64 n, .int .i64 a, .int .i64 b] w fun e w' => e = .returned (.bool (decide (a ≤ n ∧ n ≤ b))) ∧ w' = w := by
  go_enter Tryd.func60, Tryd.ntmps60
  go_wp2
  all_goals
    go_ret
    exact ⟨ret_bool (by simp; omega), rfl⟩

set_option maxHeartbeats 400000 in
theorem nameMay_any (s : ByteArray) (w : World) (hs : s.size ≤ maxLen) :
    Calls Tryd.prog 43 #[.string s] w fun e w' => e = .returned (.bool (nameB s.data.toList)) ∧ w' = w := by
  unfold maxLen at hs
  by_cases h0 : s.size = 0
  · have HN : Hid (nameB s.data.toList = false) := by
      have : s.data.toList = [] := List.length_eq_zero_iff.1 (by rw [size_list]; exact h0)
      simp [Hid, this, nameB]
    go_enter Tryd.func43, Tryd.ntmps43
    go_wp2
    go_ret
    exact ⟨ret_bool HN.out.symm, rfl⟩
  have h0' : ((s.size : Int) == 0) = false := by rw [beq_eq_false_iff_ne]; omega
  go_enter Tryd.func43, Tryd.ntmps43
  go_wp2
  go_loop [3] (fun i => ∃ k : Nat, k ≤ s.size ∧ i = .int .i64 k ∧ Hid ((s.data.toList.take k).all nameC = true)) (fun i => s.size - (intOf i).toNat)
  case atStart => exact ⟨0, Nat.zero_le _, rfl, by simp [Hid]⟩
  case round =>
    obtain ⟨k, hk, rfl, HA⟩ := hrel
    by_cases hlt : k < s.size
    · have hu := s[k].toNat_lt
      rcases nameC_cases s[k] with ⟨hc, h1, h2, h3⟩ | ⟨hc, h | ⟨h, h'⟩ | ⟨h, h', h''⟩⟩
      · have HC : Hid _ := hc
        have HD : Hid (decide (33 ≤ (s[k].toNat : Int) ∧ (s[k].toNat : Int) ≤ 126) = true) := decide_eq_true ⟨by omega, by omega⟩
        clear hc
        go_wp2_with fail
        refine (inR_any _ _ _ _).mono ?_
        rintro e u ⟨rfl, rfl⟩
        rw [HD.out]
        go_wp2
        go_round
        case rel => first | exact ⟨k + 1, by omega, by go_num, name_go hlt HA.out HC.out⟩ | ((repeat apply Exists.intro); exact ⟨⟨k + 1, by omega, by go_num, name_go hlt HA.out HC.out⟩, rfl⟩) | (refine ⟨trivial, ?_⟩; (repeat apply Exists.intro); exact ⟨⟨k + 1, by omega, by go_num, name_go hlt HA.out HC.out⟩, rfl⟩)
        case measure => simp [intOf]; omega
      · have HC : Hid _ := hc
        have HD : Hid (decide (33 ≤ (s[k].toNat : Int) ∧ (s[k].toNat : Int) ≤ 126) = false) := decide_eq_false (by omega)
        clear hc
        go_wp2_with fail
        refine (inR_any _ _ _ _).mono ?_
        rintro e u ⟨rfl, rfl⟩
        rw [HD.out]
        go_wp2
        go_ret
        exact ⟨ret_bool (name_stop hlt HC.out).symm, rfl⟩
      · have HC : Hid _ := hc
        have HD : Hid (decide (33 ≤ (s[k].toNat : Int) ∧ (s[k].toNat : Int) ≤ 126) = false) := decide_eq_false (by omega)
        clear hc
        go_wp2_with fail
        refine (inR_any _ _ _ _).mono ?_
        rintro e u ⟨rfl, rfl⟩
        rw [HD.out]
        go_wp2
        go_ret
        exact ⟨ret_bool (name_stop hlt HC.out).symm, rfl⟩
      · have HC : Hid _ := hc
        have HD : Hid (decide (33 ≤ (s[k].toNat : Int) ∧ (s[k].toNat : Int) ≤ 126) = true) := decide_eq_true ⟨by omega, by omega⟩
        clear hc
        go_wp2_with fail
        refine (inR_any _ _ _ _).mono ?_
        rintro e u ⟨rfl, rfl⟩
        rw [HD.out]
        go_wp2
        go_ret
        exact ⟨ret_bool (name_stop hlt HC.out).symm, rfl⟩
    · have HN : Hid (nameB s.data.toList = true) := by
        unfold Hid
        rw [name_end hlt HA.out]
        cases e : s.data.toList with
        | nil => have := size_list s; rw [e] at this; simp at this; omega
        | cons x t => rfl
      go_wp2
      go_ret
      exact ⟨ret_bool HN.out.symm, rfl⟩

theorem byte_eq (c : UInt8) (n : Nat) (hn : n < 256) : ((c.toNat : Int) == (n : Int)) = (c == UInt8.ofNat n) := by
  rw [Bool.eq_iff_iff, beq_iff_eq, beq_iff_eq]
  constructor
  · intro h; exact UInt8.toNat_inj.1 (by rw [UInt8.toNat_ofNat_of_lt' (by simpa using hn)]; omega)
  · rintro rfl; rw [UInt8.toNat_ofNat_of_lt' (by simpa using hn)]

set_option maxHeartbeats 400000 in
theorem blank_any (c : UInt8) (w : World) :
    Calls Tryd.prog 41 #[.int .u8 c.toNat] w fun e w' => e = .returned (.bool (blankB c)) ∧ w' = w := by
  have HB : Hid (blankB c = (((c.toNat : Int) == 32) || ((c.toNat : Int) == 9))) := by
    have h1 := byte_eq c 32 (by omega)
    have h2 := byte_eq c 9 (by omega)
    simp only [Int.cast_ofNat_Int] at h1 h2
    unfold Hid blankB
    rw [h1, h2]; rfl
  cases h1 : ((c.toNat : Int) == 32) <;> cases h2 : ((c.toNat : Int) == 9)
  all_goals
    have H : Hid _ := HB.out
    rw [h1, h2] at H
    clear HB
    go_enter Tryd.func41, Tryd.ntmps41
    go_wp2
    go_ret
    exact ⟨ret_bool H.out.symm, rfl⟩

/- Where a line ends. -/
def endAt (l : List UInt8) (k : Nat) : Int := if hasEnd (l.drop k) = true then k + Lib.index (l.drop k) [13, 10] else -1
theorem lineAt_drop {l : List UInt8} {k j : Nat} : lineAt (l.drop k) j ↔ lineAt l (k + j) := by
  unfold lineAt; simp [List.getElem?_drop, Nat.add_assoc]
theorem endAt_hit {l : List UInt8} {k m : Nat} (hk : k ≤ m) (hm : lineAt l m) (hn : ∀ j, k ≤ j → j < m → ¬ lineAt l j) : endAt l k = m := by
  have hl := lineAt_lt hm
  have hi : Lib.index (l.drop k) [13, 10] = ((m - k : Nat) : Int) := by
    refine Lib.index_first (by simp; omega) ((occ_line _ _).2 (lineAt_drop.2 (by rwa [Nat.add_sub_cancel' hk]))) fun j hj => occ_no fun h => ?_
    exact hn (k + j) (by omega) (by omega) (lineAt_drop.1 h)
  have he : hasEnd (l.drop k) = true := by simp only [hasEnd, Lib.contains, hi]; simp
  unfold endAt
  rw [if_pos he, hi]
  omega
theorem endAt_miss {l : List UInt8} {k : Nat} (hn : ∀ j, k ≤ j → ¬ lineAt l j) : endAt l k = -1 := by
  unfold endAt
  rw [hasEnd_no.2 fun j h => hn (k + j) (by omega) (lineAt_drop.1 h)]
  simp
theorem lineAt_bytes {s : ByteArray} {k : Nat} (h : k + 1 < s.size) : lineAt s.data.toList k ↔ (s[k] = 13 ∧ s[k + 1] = 10) := by
  unfold lineAt; rw [get_list s k (by omega), get_list s (k + 1) h]; simp

set_option maxHeartbeats 400000 in
theorem lineEnd_any (s : ByteArray) (k : Nat) (w : World) (hs : s.size ≤ 1000000000000) (hk : k ≤ s.size) :
    Calls Tryd.prog 40 #[.string s, .int .i64 k] w fun e w' => e = .returned (.int .i64 (endAt s.data.toList k)) ∧ w' = w := by
  go_enter Tryd.func40, Tryd.ntmps40
  go_wp2
  go_loop [5] (fun i => ∃ m : Nat, k ≤ m ∧ m ≤ s.size ∧ i = .int .i64 m ∧ Hid (∀ j, k ≤ j → j < m → ¬ lineAt s.data.toList j)) (fun i => s.size - (intOf i).toNat)
  case atStart => exact ⟨k, Nat.le_refl _, hk, rfl, fun j h1 h2 => by omega⟩
  case round =>
    obtain ⟨m, hm1, hm2, rfl, HN⟩ := hrel
    by_cases hlt : m + 1 < s.size
    · have hlm : m < s.size := by omega
      have b1 := byte_eq s[m] 13 (by omega)
      have b2 := byte_eq s[m + 1] 10 (by omega)
      simp only [Int.cast_ofNat_Int] at b1 b2
      cases h1 : ((s[m].toNat : Int) == 13) with
      | false =>
        have HX : Hid (¬ lineAt s.data.toList m) := by
          rw [h1] at b1
          intro h; rw [((lineAt_bytes hlt).1 h).1] at b1; exact absurd b1 (by decide)
        clear b1 b2
        go_wp2
        go_round
        case rel => first | exact ⟨m + 1, by omega, by omega, by go_num, fun j hj1 hj2 => by by_cases e : j = m; exact e ▸ HX.out; exact HN.out j hj1 (by omega)⟩ | ((repeat apply Exists.intro); exact ⟨⟨m + 1, by omega, by omega, by go_num, fun j hj1 hj2 => by by_cases e : j = m; exact e ▸ HX.out; exact HN.out j hj1 (by omega)⟩, rfl⟩) | (refine ⟨trivial, ?_⟩; (repeat apply Exists.intro); exact ⟨⟨m + 1, by omega, by omega, by go_num, fun j hj1 hj2 => by by_cases e : j = m; exact e ▸ HX.out; exact HN.out j hj1 (by omega)⟩, rfl⟩)
        case measure => simp [intOf]; omega
      | true =>
        cases h2 : ((s[m + 1].toNat : Int) == 10) with
        | false =>
          have HX : Hid (¬ lineAt s.data.toList m) := by
            rw [h2] at b2
            intro h; rw [((lineAt_bytes hlt).1 h).2] at b2; exact absurd b2 (by decide)
          clear b1 b2
          go_wp2
          go_round
          case rel => first | exact ⟨m + 1, by omega, by omega, by go_num, fun j hj1 hj2 => by by_cases e : j = m; exact e ▸ HX.out; exact HN.out j hj1 (by omega)⟩ | ((repeat apply Exists.intro); exact ⟨⟨m + 1, by omega, by omega, by go_num, fun j hj1 hj2 => by by_cases e : j = m; exact e ▸ HX.out; exact HN.out j hj1 (by omega)⟩, rfl⟩) | (refine ⟨trivial, ?_⟩; (repeat apply Exists.intro); exact ⟨⟨m + 1, by omega, by omega, by go_num, fun j hj1 hj2 => by by_cases e : j = m; exact e ▸ HX.out; exact HN.out j hj1 (by omega)⟩, rfl⟩)
          case measure => simp [intOf]; omega
        | true =>
          have HX : Hid (endAt s.data.toList k = m) := by
            rw [h1] at b1; rw [h2] at b2
            exact endAt_hit hm1 ((lineAt_bytes hlt).2 ⟨by simpa using b1.symm, by simpa using b2.symm⟩) HN.out
          clear b1 b2
          go_wp2
          go_ret
          exact ⟨ret_int HX.out.symm, rfl⟩
    · have HX : Hid (endAt s.data.toList k = -1) := endAt_miss fun j hj h => by
        have := lineAt_lt h; rw [size_list] at this
        exact HN.out j hj (by omega) h
      go_wp2
      go_ret
      exact ⟨ret_int HX.out.symm, rfl⟩

set_option maxHeartbeats 400000 in
theorem colonAt_any (s : ByteArray) (w : World) (hs : s.size ≤ 1000000000000) :
    Calls Tryd.prog 42 #[.string s] w fun e w' => e = .returned (.int .i64 (Lib.indexByte s.data.toList 58)) ∧ w' = w := by
  go_enter Tryd.func42, Tryd.ntmps42
  go_wp2
  go_loop [3] (fun i => ∃ k : Nat, k ≤ s.size ∧ i = .int .i64 k ∧ Hid ((58 : UInt8) ∉ s.data.toList.take k)) (fun i => s.size - (intOf i).toNat)
  case atStart => exact ⟨0, Nat.zero_le _, rfl, by simp [Hid]⟩
  case round =>
    obtain ⟨k, hk, rfl, HN⟩ := hrel
    by_cases hlt : k < s.size
    · have b1 := byte_eq s[k] 58 (by omega)
      simp only [Int.cast_ofNat_Int] at b1
      cases h1 : ((s[k].toNat : Int) == 58) with
      | false =>
        have HX : Hid ((58 : UInt8) ∉ s.data.toList.take (k + 1)) := by
          rw [h1] at b1
          unfold Hid
          rw [take_snoc s k hlt]
          have := HN.out
          simp only [List.mem_append, List.mem_singleton, not_or]
          exact ⟨this, fun e => by rw [← e] at b1; exact absurd b1 (by decide)⟩
        clear b1
        go_wp2
        go_round
        case rel => first | exact ⟨k + 1, by omega, by go_num, HX⟩ | ((repeat apply Exists.intro); exact ⟨⟨k + 1, by omega, by go_num, HX⟩, rfl⟩) | (refine ⟨trivial, ?_⟩; (repeat apply Exists.intro); exact ⟨⟨k + 1, by omega, by go_num, HX⟩, rfl⟩)
        case measure => simp [intOf]; omega
      | true =>
        have HX : Hid (Lib.indexByte s.data.toList 58 = k) := by
          rw [h1] at b1
          have e : s[k] = 58 := by simpa using b1.symm
          have hs2 : s.data.toList = s.data.toList.take k ++ 58 :: s.data.toList.drop (k + 1) := by
            conv => lhs; rw [← List.take_append_drop (k + 1) s.data.toList, take_snoc s k hlt, e]
            simp
          unfold Hid
          rw [hs2, indexByte_hit HN.out, List.length_take, size_list]
          omega
        clear b1
        go_wp2
        go_ret
        exact ⟨ret_int HX.out.symm, rfl⟩
    · have HX : Hid (Lib.indexByte s.data.toList 58 = -1) := by
        have := HN.out
        rw [List.take_of_length_le (by rw [size_list]; omega)] at this
        exact indexByte_miss this
      go_wp2
      go_ret
      exact ⟨ret_int HX.out.symm, rfl⟩

/- Blanks at the ends. -/
def strLen : Value → Nat
  | .string s => s.size
  | _ => 0
theorem tail_list (x : ByteArray) (c : UInt8) (t : List UInt8) (h : x.data.toList = c :: t) : (x.extract 1 x.size).data.toList = t := by
  have hz : x.size = t.length + 1 := by rw [← size_list, h]; rfl
  simp only [ByteArray.data_extract, Array.toList_extract]
  simp [h, hz]
theorem init_list (x : ByteArray) : (x.extract 0 (x.size - 1)).data.toList = x.data.toList.dropLast := by
  rw [List.dropLast_eq_take, size_list]
  simp only [ByteArray.data_extract, Array.toList_extract]
  simp
theorem snoc_list (x : ByteArray) (h : 0 < x.size) : x.data.toList = x.data.toList.dropLast ++ [x[x.size - 1]] := by
  have h0 : x.data.toList ≠ [] := fun e => by have := size_list x; rw [e] at this; simp at this; omega
  have h1 : x.data.toList.getLast h0 = x[x.size - 1] := by
    have := get_list x (x.size - 1) (by omega)
    rw [List.getLast_eq_getElem]
    have hl := size_list x
    rw [List.getElem?_eq_getElem (by omega)] at this
    simp only [hl]
    exact Option.some.inj this
  rw [← h1]
  exact (List.dropLast_concat_getLast h0).symm

set_option maxHeartbeats 800000 in
theorem trimmed_any (s : ByteArray) (w : World) (hs : s.size ≤ 1000000000000) :
    Calls Tryd.prog 44 #[.string s] w fun e w' => e = .returned (.string (S (trimW s.data.toList))) ∧ w' = w := by
  go_enter Tryd.func44, Tryd.ntmps44
  go_wp2
  go_loop [0] (fun v => ∃ x : ByteArray, x.size ≤ s.size ∧ v = .string x ∧ Hid (s.data.toList.dropWhile blankB = x.data.toList.dropWhile blankB)) (fun v => strLen v)
  case atStart => exact ⟨s, Nat.le_refl _, rfl, rfl⟩
  case round =>
    obtain ⟨x, hx, rfl, HD⟩ := hrel
    by_cases hgo : ∃ h : 0 < x.size, blankB x[0] = true
    · obtain ⟨hp, hb⟩ := hgo
      have HB : Hid _ := hb
      clear hb
      have HX : Hid ((x.extract 1 x.size).size ≤ s.size ∧ (x.extract 1 x.size).size < x.size ∧ s.data.toList.dropWhile blankB = (x.extract 1 x.size).data.toList.dropWhile blankB) := by
        have h0 : x.data.toList[0]? = some x[0] := get_list x 0 hp
        cases hl : x.data.toList with
        | nil => rw [hl] at h0; simp at h0
        | cons c t =>
          rw [hl] at h0
          have hc : c = x[0] := by simpa using h0
          have ht := tail_list x c t hl
          have hz : (x.extract 1 x.size).size = t.length := by rw [← size_list, ht]
          have hz2 : x.size = t.length + 1 := by rw [← size_list, hl]; rfl
          refine ⟨by omega, by omega, ?_⟩
          rw [ht, HD.out, hl, List.dropWhile_cons, hc, HB.out]
          simp
      go_wp2_with fail
      refine (blank_any x[0] _).mono ?_
      rintro e u ⟨rfl, rfl⟩
      rw [HB.out]
      go_wp2
      go_round
      case rel => first | exact ⟨_, HX.out.1, rfl, HX.out.2.2⟩ | ((repeat apply Exists.intro); exact ⟨⟨_, HX.out.1, rfl, HX.out.2.2⟩, rfl⟩) | (refine ⟨trivial, ?_⟩; (repeat apply Exists.intro); exact ⟨⟨_, HX.out.1, rfl, HX.out.2.2⟩, rfl⟩)
      case measure => exact HX.out.2.1
    · have HX : Hid (s.data.toList.dropWhile blankB = x.data.toList) := by
        unfold Hid
        rw [HD.out]
        refine dropWhile_head fun c hc => ?_
        by_cases h0 : 0 < x.size
        · have h1 : x.data.toList[0]? = some x[0] := get_list x 0 h0
          rw [List.head?_eq_getElem?] at hc
          have : c = x[0] := by rw [h1] at hc; exact (Option.some.inj hc).symm
          rw [this]
          cases e : blankB x[0] with
          | false => rfl
          | true => exact absurd ⟨h0, e⟩ hgo
        · have : x.data.toList = [] := List.length_eq_zero_iff.1 (by rw [size_list]; omega)
          rw [this] at hc; cases hc
      clear HD
      have hstop : ¬ 0 < x.size ∨ ∃ h : 0 < x.size, Hid (blankB x[0] = false) := by
        by_cases h0 : 0 < x.size
        · right; exact ⟨h0, by unfold Hid; cases e : blankB x[0] with | false => rfl | true => exact absurd ⟨h0, e⟩ hgo⟩
        · left; exact h0
      clear hgo
      rcases hstop with h0 | ⟨h0, HB⟩
      case' neg.inl =>
        go_wp2
        clear h0
      case' neg.inr =>
        go_wp2_with fail
        refine (blank_any x[0] _).mono ?_
        rintro e u ⟨rfl, rfl⟩
        rw [HB.out]
        go_wp2
      all_goals
        go_loop [0] (fun v => ∃ y : ByteArray, y.size ≤ x.size ∧ v = .string y ∧ Hid (x.data.toList.reverse.dropWhile blankB = y.data.toList.reverse.dropWhile blankB)) (fun v => strLen v)
        case atStart => exact ⟨x, Nat.le_refl _, rfl, rfl⟩
        case round =>
          obtain ⟨y, hy, rfl, HD⟩ := hrel
          by_cases hp : 0 < y.size
          · cases hb : blankB y[y.size - 1] with
            | true =>
              have HB : Hid _ := hb
              clear hb
              have HY : Hid ((y.extract 0 (y.size - 1)).size ≤ x.size ∧ (y.extract 0 (y.size - 1)).size < y.size ∧ x.data.toList.reverse.dropWhile blankB = (y.extract 0 (y.size - 1)).data.toList.reverse.dropWhile blankB) := by
                have hz : (y.extract 0 (y.size - 1)).size = y.size - 1 := by rw [← size_list, init_list, List.length_dropLast, size_list]
                refine ⟨by omega, by omega, ?_⟩
                rw [HD.out, init_list, snoc_list y hp]
                simp [HB.out]
              go_wp2_with fail
              refine (blank_any y[y.size - 1] _).mono ?_
              rintro e u ⟨rfl, rfl⟩
              rw [HB.out]
              go_wp2
              go_round
              case rel => first | exact ⟨_, HY.out.1, rfl, HY.out.2.2⟩ | ((repeat apply Exists.intro); exact ⟨⟨_, HY.out.1, rfl, HY.out.2.2⟩, rfl⟩) | (refine ⟨trivial, ?_⟩; (repeat apply Exists.intro); exact ⟨⟨_, HY.out.1, rfl, HY.out.2.2⟩, rfl⟩)
              case measure => exact HY.out.2.1
            | false =>
              have HB : Hid _ := hb
              clear hb
              have HY : Hid (S (trimW s.data.toList) = y) := by
                unfold Hid
                rw [← trim_left, HX.out, HD.out, snoc_list y hp, List.reverse_append]
                simp only [List.reverse_cons, List.reverse_nil, List.nil_append, List.singleton_append, List.dropWhile_cons, HB.out]
                simp only [Bool.false_eq_true, if_false, List.reverse_cons, List.reverse_reverse]
                rw [← snoc_list y hp, S_list]
              go_wp2_with fail
              refine (blank_any y[y.size - 1] _).mono ?_
              rintro e u ⟨rfl, rfl⟩
              rw [HB.out]
              go_wp2
              go_ret
              exact ⟨by rw [HY.out]; rfl, rfl⟩
          · have HY : Hid (S (trimW s.data.toList) = y) := by
              unfold Hid
              have hn : y.data.toList = [] := List.length_eq_zero_iff.1 (by rw [size_list]; omega)
              rw [← trim_left, HX.out, HD.out, hn]
              simp only [List.reverse_nil, List.dropWhile_nil]
              rw [← hn, S_list]
            go_wp2
            go_ret
            exact ⟨by rw [HY.out]; rfl, rfl⟩
end Go.Proofs.YtgbhaphgojlhaaaDoor
