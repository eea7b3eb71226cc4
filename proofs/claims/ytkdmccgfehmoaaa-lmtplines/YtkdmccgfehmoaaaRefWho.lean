/-
  What postroomref's atomByte, dottedMay, AddressFault and PartOf do: the walks.
-/
import Derived.Test.YtkdmccgfehmoaaaWhoChk
namespace Go.Proofs.Ytkdmccgfehmoaaa
open Go.RowKit

set_option maxHeartbeats 400000 in
theorem within_any (n a b : Int) (w : World) :
    Calls Try.prog 14 #[.int .i64 n, .int .i64 a, .int .i64 b] w fun e w' => e = .returned (.bool (decide (a ≤ n ∧ n ≤ b))) ∧ w' = w := by
  go_enter Try.func14, Try.ntmps14
  go_wp2
  all_goals
    go_ret
    exact ⟨ret_bool (by simp; omega), rfl⟩

def marksR : List UInt8 := [33, 35, 36, 37, 38, 39, 42, 43, 45, 47, 61, 63, 94, 95, 123, 124, 125, 126, 96]
theorem marksR_same (c : UInt8) : marksR.contains c = marksL.contains c := by
  rw [Bool.eq_iff_iff, List.contains_iff_mem, List.contains_iff_mem]
  simp only [marksR, marksL, List.mem_cons, List.not_mem_nil, or_false]
  constructor <;> (intro h; rcases h with h | h | h | h | h | h | h | h | h | h | h | h | h | h | h | h | h | h | h <;> simp [h])
theorem cell_fresh (w : World) (cs : Array Value) (t : TypeId) (j : Nat) (v : Value) (h : cs[j]? = some v) : (w.alloc (.cells cs t)).cell? ⟨w.heap.size, j, none⟩ = some v := by
  simp [h]
def marksV : Array Value := (marksR.map fun c => Value.int .u8 c.toNat).toArray
theorem marks_cell (w : World) (j : Nat) (x : UInt8) (h : marksR[j]? = some x) (t : TypeId) : (w.alloc (.cells marksV t)).cell? ⟨w.heap.size, j, none⟩ = some (.int .u8 x.toNat) :=
  cell_fresh w _ _ _ _ (by simp [marksV, h])
theorem not_take {l : List UInt8} {k : Nat} {c x : UInt8} (h : (l.take k).contains c = false) (hx : l[k]? = some x) (hn : x ≠ c) : (l.take (k + 1)).contains c = false := by
  rw [take_some hx]
  rw [Bool.eq_false_iff] at h ⊢
  simp only [ne_eq, List.contains_iff_mem, List.mem_append, List.mem_singleton, not_or] at h ⊢
  exact ⟨h, fun e => hn e.symm⟩

set_option maxHeartbeats 4000000 in
set_option maxRecDepth 100000 in
theorem atomByte_any (c : UInt8) (w : World) :
    Calls Try.prog 40 #[.int .u8 c.toNat] w fun e w' => e = .returned (.bool (atomB c)) ∧ Below w.heap.size w w' := by
  have hu := c.toNat_lt
  have hx0 : (0 : Int) ≤ (c.toNat : Int) := by omega
  have hx1 : (c.toNat : Int) ≤ 255 := by omega
  by_cases h1 : 97 ≤ c.toNat ∧ c.toNat ≤ 122
  · have HA : Hid (atomB c = true) := by unfold Hid atomB; simp [h1.1, h1.2]
    have H1 : Hid (decide ((97 : Int) ≤ (c.toNat : Int) ∧ (c.toNat : Int) ≤ 122) = true) := by unfold Hid; simp; omega
    clear h1
    go_enter Try.func40, Try.ntmps40
    go_wp2_with fail
    refine (within_any _ _ _ _).mono ?_
    rintro e u ⟨rfl, hu⟩
    have hu' := hu.symm
    subst hu'
    rw [H1.out]
    go_wp2
    go_ret
    exact ⟨ret_bool HA.out.symm, Below.refl _ _⟩
  have H1 : Hid (decide ((97 : Int) ≤ (c.toNat : Int) ∧ (c.toNat : Int) ≤ 122) = false) := by unfold Hid; simp; omega
  by_cases h2 : 65 ≤ c.toNat ∧ c.toNat ≤ 90
  · have HA : Hid (atomB c = true) := by unfold Hid atomB; simp [h2.1, h2.2]
    have H2 : Hid (decide ((65 : Int) ≤ (c.toNat : Int) ∧ (c.toNat : Int) ≤ 90) = true) := by unfold Hid; simp; omega
    clear h1 h2
    go_enter Try.func40, Try.ntmps40
    go_wp2_with fail
    refine (within_any _ _ _ _).mono ?_
    rintro e u ⟨rfl, hu⟩
    have hu' := hu.symm
    subst hu'
    rw [H1.out]
    go_wp2_with fail
    refine (within_any _ _ _ _).mono ?_
    rintro e u2 ⟨rfl, hu⟩
    have hu' := hu.symm
    subst hu'
    rw [H2.out]
    go_wp2
    go_ret
    exact ⟨ret_bool HA.out.symm, Below.refl _ _⟩
  have H2 : Hid (decide ((65 : Int) ≤ (c.toNat : Int) ∧ (c.toNat : Int) ≤ 90) = false) := by unfold Hid; simp; omega
  by_cases h3 : 48 ≤ c.toNat ∧ c.toNat ≤ 57
  · have HA : Hid (atomB c = true) := by unfold Hid atomB; simp [h3.1, h3.2]
    have H3 : Hid (decide ((48 : Int) ≤ (c.toNat : Int) ∧ (c.toNat : Int) ≤ 57) = true) := by unfold Hid; simp; omega
    clear h1 h2 h3
    go_enter Try.func40, Try.ntmps40
    go_wp2_with fail
    refine (within_any _ _ _ _).mono ?_
    rintro e u ⟨rfl, hu⟩
    have hu' := hu.symm
    subst hu'
    rw [H1.out]
    go_wp2_with fail
    refine (within_any _ _ _ _).mono ?_
    rintro e u2 ⟨rfl, hu⟩
    have hu' := hu.symm
    subst hu'
    rw [H2.out]
    go_wp2_with fail
    refine (within_any _ _ _ _).mono ?_
    rintro e u3 ⟨rfl, hu⟩
    have hu' := hu.symm
    subst hu'
    rw [H3.out]
    go_wp2
    go_ret
    exact ⟨ret_bool HA.out.symm, Below.refl _ _⟩
  have H3 : Hid (decide ((48 : Int) ≤ (c.toNat : Int) ∧ (c.toNat : Int) ≤ 57) = false) := by unfold Hid; simp; omega
  have HA : Hid (atomB c = marksR.contains c) := by
    unfold Hid atomB
    have e1 : (decide (97 ≤ c.toNat) && decide (c.toNat ≤ 122)) = false := by simp; omega
    have e2 : (decide (65 ≤ c.toNat) && decide (c.toNat ≤ 90)) = false := by simp; omega
    have e3 : (decide (48 ≤ c.toNat) && decide (c.toNat ≤ 57)) = false := by simp; omega
    rw [e1, e2, e3, marksR_same]; rfl
  clear h1 h2 h3
  go_enter Try.func40, Try.ntmps40
  go_wp2_with fail
  refine (within_any _ _ _ _).mono ?_
  rintro e u ⟨rfl, hu⟩
  have hu' := hu.symm
  subst hu'
  rw [H1.out]
  go_wp2_with fail
  refine (within_any _ _ _ _).mono ?_
  rintro e u2 ⟨rfl, hu⟩
  have hu' := hu.symm
  subst hu'
  rw [H2.out]
  go_wp2_with fail
  refine (within_any _ _ _ _).mono ?_
  rintro e u3 ⟨rfl, hu⟩
  have hu' := hu.symm
  subst hu'
  rw [H3.out]
  go_wp2
  go_loopw [4] (fun i wr => ∃ k : Nat, k ≤ 19 ∧ i = .int .i64 k ∧ Hid ((marksR.take k).contains c = false) ∧ Hid (∀ (j : Nat) x, marksR[j]? = some x → wr.cell? ⟨w.heap.size, j, none⟩ = some (.int .u8 x.toNat)) ∧ Below w.heap.size w wr) (fun i _ => 19 - (intOf i).toNat)
  case atStart => exact ⟨0, Nat.zero_le _, rfl, rfl, fun j x h => marks_cell w j x h _, (Below.refl _ _).alloc (Nat.le_refl _) _⟩
  case round =>
    obtain ⟨k, hk, rfl, HT, HM, hB⟩ := hrel
    by_cases hlt : k < 19
    · obtain ⟨x, hx⟩ : ∃ x, marksR[k]? = some x := ⟨_, List.getElem?_eq_getElem (by exact hlt)⟩
      have hcell := HM.out k x hx
      have i1 : (0 : Int) ≤ (k : Int) := by omega
      have i2 : (k : Int) < 19 := by omega
      by_cases hc : x = c
      · have HN : Hid (marksR.contains c = true) := by unfold Hid; rw [List.contains_iff_mem, ← hc]; exact List.mem_of_getElem? hx
        have hq : ((x.toNat : Int) == (c.toNat : Int)) = true := by rw [hc]; simp
        clear hx hc
        go_wp2
        go_ret
        exact ⟨ret_bool (by rw [HA.out, HN.out]), hB⟩
      · have HN : Hid ((marksR.take (k + 1)).contains c = false) := not_take HT.out hx hc
        have hq : ((x.toNat : Int) == (c.toNat : Int)) = false := by
          rw [beq_eq_false_iff_ne]; intro e; exact hc (UInt8.toNat_inj.1 (by omega))
        clear hx hc
        go_wp2
        go_roundw
        case rel => first | exact ⟨k + 1, by omega, by go_num, HN, HM, hB⟩ | ((repeat apply Exists.intro); exact ⟨⟨k + 1, by omega, by go_num, HN, HM, hB⟩, rfl⟩) | (refine ⟨trivial, ?_⟩; (repeat apply Exists.intro); exact ⟨⟨k + 1, by omega, by go_num, HN, HM, hB⟩, rfl⟩)
        case measure => simp [intOf]; omega
    · have hk' : k = 19 := by omega
      subst hk'
      have HN : Hid (marksR.contains c = false) := HT.out
      go_wp2
      go_ret
      exact ⟨ret_bool (by rw [HA.out, HN.out]), hB⟩

set_option maxHeartbeats 4000000 in
set_option maxRecDepth 100000 in
theorem dottedMay_any (s : ByteArray) (w : World) (hs : s.size ≤ maxLen) :
    Calls Try.prog 25 #[.string s] w fun e w' => e = .returned (.bool (dottedB s.data.toList)) ∧ Below w.heap.size w w' := by
  unfold maxLen at hs
  go_enter Try.func25, Try.ntmps25
  go_wp2
  go_loopw [3, 4] (fun b i wr => ∃ (k : Nat) (x : UInt8), k ≤ s.size ∧ i = .int .i64 k ∧ b = .int .u8 x.toNat ∧ Hid (dottedB s.data.toList = dotS (x == 46) (s.data.toList.drop k)) ∧ Below w.heap.size w wr) (fun _ i _ => s.size - (intOf i).toNat)
  case atStart => exact ⟨0, 46, Nat.zero_le _, rfl, rfl, rfl, Below.refl _ _⟩
  case round =>
    obtain ⟨k, x, hk, rfl, rfl, HD, hB⟩ := hrel
    by_cases hlt : k < s.size
    · have hdrop : s.data.toList.drop k = s[k] :: s.data.toList.drop (k + 1) := by
        rw [List.drop_eq_getElem_cons (by rw [size_list]; exact hlt)]; rfl
      by_cases hd : s[k] = 46
      · have hyi : (s[k].toNat : Int) = 46 := by rw [hd]; rfl
        by_cases hx : x = 46
        · have hxi : (x.toNat : Int) = 46 := by rw [hx]; rfl
          have HN : Hid (dottedB s.data.toList = false) := by
            unfold Hid; rw [HD.out, hdrop, hx, hd]; rfl
          clear hdrop hd hx
          go_wp2
          go_ret
          exact ⟨ret_bool HN.out.symm, hB⟩
        · have hxi : ¬ (x.toNat : Int) = 46 := fun h => hx (UInt8.toNat_inj.1 (by show x.toNat = 46; omega))
          have HN : Hid (dottedB s.data.toList = dotS ((46 : UInt8) == 46) (s.data.toList.drop (k + 1))) := by
            have e : (x == 46) = false := by simp [hx]
            unfold Hid; rw [HD.out, hdrop, e, hd]; rfl
          clear hdrop hd hx
          go_wp2
          go_roundw
          case rel => first | exact ⟨k + 1, 46, by omega, by go_num, rfl, HN, hB⟩ | ((repeat apply Exists.intro); exact ⟨⟨k + 1, 46, by omega, by go_num, rfl, HN, hB⟩, rfl⟩) | (refine ⟨trivial, ?_⟩; (repeat apply Exists.intro); exact ⟨⟨k + 1, 46, by omega, by go_num, rfl, HN, hB⟩, rfl⟩)
          case measure => simp [intOf]; omega
      · have hyi : ¬ (s[k].toNat : Int) = 46 := fun h => hd (UInt8.toNat_inj.1 (by show s[k].toNat = 46; omega))
        have hy : (s[k] == 46) = false := by simp [hd]
        cases ha : atomB s[k] with
        | true =>
          have HN : Hid (dottedB s.data.toList = dotS (s[k] == 46) (s.data.toList.drop (k + 1))) := by
            unfold Hid; rw [HD.out, hdrop, hy]; show (if s[k] = 46 then _ else _) = _; rw [if_neg hd, ha]; rfl
          have HA : Hid _ := ha
          clear ha hdrop hd hy
          go_wp2_with fail
          refine (atomByte_any s[k] _).mono ?_
          rintro e u ⟨rfl, hb⟩
          rw [HA.out]
          have hB2 := wnext hB hb (Nat.le_refl _)
          go_wp2
          go_roundw
          case rel => first | exact ⟨k + 1, s[k], by omega, by go_num, rfl, HN, hB2⟩ | ((repeat apply Exists.intro); exact ⟨⟨k + 1, s[k], by omega, by go_num, rfl, HN, hB2⟩, rfl⟩) | (refine ⟨trivial, ?_⟩; (repeat apply Exists.intro); exact ⟨⟨k + 1, s[k], by omega, by go_num, rfl, HN, hB2⟩, rfl⟩)
          case measure => simp [intOf]; omega
        | false =>
          have HN : Hid (dottedB s.data.toList = false) := by
            unfold Hid; rw [HD.out, hdrop]; show (if s[k] = 46 then _ else _) = _; rw [if_neg hd, ha]; rfl
          have HA : Hid _ := ha
          clear ha hdrop hd hy
          go_wp2_with fail
          refine (atomByte_any s[k] _).mono ?_
          rintro e u ⟨rfl, hb⟩
          rw [HA.out]
          have hB2 := wnext hB hb (Nat.le_refl _)
          go_wp2
          go_ret
          exact ⟨ret_bool HN.out.symm, hB2⟩
    · have HN : Hid (dottedB s.data.toList = !(x == 46)) := by
        unfold Hid; rw [HD.out, List.drop_of_length_le (by rw [size_list]; omega)]; rfl
      have hx46 : ((x.toNat : Int) == 46) = (x == 46) := by
        rw [Bool.eq_iff_iff, beq_iff_eq, beq_iff_eq]
        constructor
        · intro h; exact UInt8.toNat_inj.1 (by show x.toNat = 46; omega)
        · rintro rfl; rfl
      have HX : Hid _ := hx46
      clear hx46
      go_wp2
      go_ret
      refine ⟨ret_bool ?_, hB⟩
      rw [HN.out, ← HX.out]
      first | rfl | simp

set_option maxHeartbeats 2000000 in
theorem addressFault_any (l d : ByteArray) (w : World) (hl : l.size ≤ 140737488355328) (hd : d.size ≤ 140737488355328) :
    Calls Try.prog 15 #[.agg #[.string l, .string d]] w fun e w' => e = .returned (.int .i64 (checkA l.data.toList d.data.toList)) ∧ Below w.heap.size w w' := by
  have H1 : Hid (l.size ≤ maxLen) := by unfold Hid maxLen; omega
  have H2 : Hid (d.size ≤ maxLen) := by unfold Hid maxLen; omega
  have HC : Hid (checkA l.data.toList d.data.toList = if (dottedB l.data.toList && dottedB d.data.toList) = false then 3 else if 100 < l.size + 1 + d.size then 1 else 0) := by
    unfold Hid checkA; rw [size_list, size_list]
  have hN : Below w.heap.size w (w.alloc (.cells #[.string l, .string d] 23)) := (Below.refl _ _).alloc (Nat.le_refl _) _
  have HN : Hid _ := hN
  have hc0 : ∀ u, Below (w.heap.size + 1) (w.alloc (.cells #[.string l, .string d] 23)) u → u.cell? ⟨w.heap.size, 0, none⟩ = some (.string l) := fun u hb => (hb.cell (by simp)).trans (by simp)
  have hc1 : ∀ u, Below (w.heap.size + 1) (w.alloc (.cells #[.string l, .string d] 23)) u → u.cell? ⟨w.heap.size, 1, none⟩ = some (.string d) := fun u hb => (hb.cell (by simp)).trans (by simp)
  clear hN
  cases h1 : dottedB l.data.toList with
  | false =>
    rw [h1] at HC
    have HE : Hid _ := h1
    clear h1 hc0 hc1
    go_enter Try.func15, Try.ntmps15
    go_wp2_with fail
    refine (dottedMay_any l _ H1.out).mono ?_
    rintro e u ⟨rfl, hb⟩
    rw [HE.out]
    go_wp2
    go_ret
    exact ⟨ret_int (by rw [HC.out]; rfl), wnext HN.out hb (Nat.le_refl _)⟩
  | true =>
    rw [h1] at HC
    have HE : Hid _ := h1
    clear h1
    go_enter Try.func15, Try.ntmps15
    go_wp2_with fail
    refine (dottedMay_any l _ H1.out).mono ?_
    rintro e u ⟨rfl, hb⟩
    rw [HE.out]
    have c1 := hc1 u (by simpa using hb)
    cases h2 : dottedB d.data.toList with
    | false =>
      rw [h2] at HC
      have HF : Hid _ := h2
      clear h2 hc0 hc1
      go_wp2_with fail
      refine (dottedMay_any d _ H2.out).mono ?_
      rintro e u2 ⟨rfl, hb2⟩
      rw [HF.out]
      go_wp2
      go_ret
      exact ⟨ret_int (by rw [HC.out]; rfl), wnext (wnext HN.out hb (Nat.le_refl _)) hb2 (Nat.le_refl _)⟩
    | true =>
      rw [h2] at HC
      have HF : Hid _ := h2
      clear h2
      go_wp2_with fail
      refine (dottedMay_any d _ H2.out).mono ?_
      rintro e u2 ⟨rfl, hb2⟩
      rw [HF.out]
      have hbb : Below (w.heap.size + 1) (w.alloc (.cells #[.string l, .string d] 23)) u2 := by
        have := wnext hb hb2 (Nat.le_refl _); simpa using this
      have d0 := hc0 u2 hbb
      have d1 := hc1 u2 hbb
      clear hc0 hc1 hbb
      by_cases hz : 100 < l.size + 1 + d.size
      · have hz' : (99 : Int) < (l.size : Int) + (d.size : Int) := by omega
        rw [if_pos hz] at HC
        clear hz
        go_wp2
        go_ret
        exact ⟨ret_int (by rw [HC.out]; rfl), wnext (wnext HN.out hb (Nat.le_refl _)) hb2 (Nat.le_refl _)⟩
      · have hz' : ¬ (99 : Int) < (l.size : Int) + (d.size : Int) := by omega
        rw [if_neg hz] at HC
        clear hz
        go_wp2
        go_ret
        exact ⟨ret_int (by rw [HC.out]; rfl), wnext (wnext HN.out hb (Nat.le_refl _)) hb2 (Nat.le_refl _)⟩
end Go.Proofs.Ytkdmccgfehmoaaa
