/-
  What letter.takeLine and letter.trimValues do: the walks. The fields are a row that the call has made itself; a line that goes on is written into it.
-/
import Derived.Test.YtgbhaphgojlhaaaDoorLetRow
import Derived.Test.YtgbhaphgojlhaaaDoorLetParse
namespace Go.Proofs.YtgbhaphgojlhaaaDoor
open Go.RowKit

/-- A row of fields that the call has made. -/
def OwnF (w : World) (B : Nat) (v : Value) (fs : List F) : Prop := w.ownsRow B 63 2 v fs.length (cellsF fs)

theorem own_set {w : World} {base g cap n : Nat} {e : TypeId} {size : Nat} {xs : List Value} (h : w.ownsRow base e size (.slice (some ⟨g, 0, none⟩) n cap) n xs) (j : Nat) (u : Value) :
    (w.setCell ⟨g, j, none⟩ u).ownsRow base e size (.slice (some ⟨g, 0, none⟩) n cap) n (xs.set j u) := by
  refine ⟨by rw [List.length_set]; exact h.1, .inr ?_⟩
  rcases h.2 with ⟨h', _⟩ | ⟨g', cap', cur, h', hb, hg, h1, h2, h3, htake⟩
  · simp at h'
  · simp only [Value.slice.injEq, Option.some.injEq, Addr.mk.injEq, and_true, true_and] at h'
    obtain ⟨rfl, rfl⟩ := h'
    refine ⟨g, cap, cur.setIfInBounds j u, rfl, hb, heap_setCell_same w g j cur e u hg, h1, h2, by simpa using h3, ?_⟩
    rw [Array.toList_setIfInBounds, List.take_set, htake]
theorem OwnF.form {w : World} {B : Nat} {v : Value} {fs : List F} (h : OwnF w B v fs) (h0 : fs ≠ []) : ∃ g cap, v = .slice (some ⟨g, 0, none⟩) fs.length cap ∧ B ≤ g ∧ g < w.heap.size :=
  World.ownsRow.form h (List.length_pos_iff.2 h0)
theorem OwnF.any {w : World} {B : Nat} {v : Value} {fs : List F} (h : OwnF w B v fs) : ∃ a cap, v = .slice a fs.length cap := by
  by_cases h0 : fs = []
  · rcases h.2 with ⟨rfl, hn⟩ | ⟨g, cap, cur, rfl, _⟩
    · subst h0; exact ⟨none, 0, rfl⟩
    · exact ⟨_, _, rfl⟩
  · obtain ⟨g, cap, rfl, _⟩ := h.form h0
    exact ⟨_, _, rfl⟩
theorem OwnF.fields {w : World} {B : Nat} {a : Option Addr} {c : Nat} {fs : List F} (h : OwnF w B (.slice a fs.length c) fs) : FieldsAt w a fs := by
  by_cases h0 : fs = []
  · subst h0; exact fields_nil _ _
  · obtain ⟨g, cap, e, hb, hg⟩ := h.form h0
    simp only [Value.slice.injEq, true_and] at e
    obtain ⟨rfl, rfl⟩ := e
    exact fields_own h hg
theorem cellsF_set {fs : List F} {i : Nat} {f : F} (h : fs[i]? = some f) (v : List UInt8) : (cellsF fs).set (i * 2 + 1) (.string (S v)) = cellsF (fs.set i (f.1, v)) := by
  induction fs generalizing i with
  | nil => simp at h
  | cons g fs ih =>
    cases i with
    | zero => simp at h; subst h; simp [cellsF]
    | succ i =>
      have := ih (i := i) (by simpa using h)
      have e1 : (i + 1) * 2 + 1 = (i * 2 + 1) + 2 := by omega
      rw [e1]
      simpa [cellsF] using this
theorem addLast_eq {raw : List F} {line : List UInt8} {f : F} (h : raw[raw.length - 1]? = some f) : addLast raw line = raw.set (raw.length - 1) (f.1, f.2 ++ line) := by
  have h0 : raw ≠ [] := by rintro rfl; simp at h
  have hl : raw.getLast? = some f := by rw [List.getLast?_eq_getElem?]; exact h
  have e : raw = raw.dropLast ++ [f] := by
    rw [List.getLast?_eq_some_getLast h0] at hl
    have := List.dropLast_concat_getLast h0
    rw [← this, Option.some.inj hl]; simp
  unfold addLast
  rw [hl]
  simp only [Option.getD_some]
  have hn : raw.length - 1 = raw.dropLast.length := by simp
  conv => rhs; rw [hn, e]
  rw [List.set_append_right _ _ (by simp)]
  simp
theorem blank_index (c : UInt8) : (0 ≤ Lib.indexByte [32, 9] c) ↔ blankB c = true := by
  unfold blankB Lib.indexByte Lib.indexByte Lib.indexByte
  by_cases h1 : c = 32
  · subst h1; decide
  · by_cases h2 : c = 9
    · subst h2; decide
    · have e1 : (32 == c) = false := by simpa using fun h => h1 h.symm
      have e2 : (9 == c) = false := by simpa using fun h => h2 h.symm
      simp [e1, e2, h1, h2]
theorem u8_back (c : UInt8) : ((c.toNat : Int)).toNat.toUInt8 = c := by simp

set_option maxHeartbeats 2000000 in
/-- A line that goes on. -/
theorem take_on (B : Nat) (v : Value) (fs : List F) (line : ByteArray) (w : World) (hO : OwnF w B v fs) (hl : line.size ≤ 5000) (hb : ∀ f ∈ fs, f.2.length ≤ 5000) (hn : fs.length ≤ 30) (h : goesOn fs line.data.toList = true) :
    Calls Tryd.prog 38 #[v, .string line] w fun e w' => e = .returned (.tuple #[v, .int .i64 0]) ∧ OwnF w' B v (addLast fs line.data.toList) ∧ Below B w w' := by
  have h0 : fs ≠ [] := by rintro rfl; simp [goesOn] at h
  have hpos : 0 < fs.length := List.length_pos_iff.2 h0
  obtain ⟨g, cap, rfl, hB, hg⟩ := hO.form h0
  obtain ⟨f, hf⟩ : ∃ f, fs[fs.length - 1]? = some f := ⟨_, List.getElem?_eq_getElem (by omega)⟩
  obtain ⟨b, off, ha, _, h1, h2⟩ := (OwnF.fields hO) _ f hf
  simp only [Option.some.injEq, Addr.mk.injEq, and_true] at ha
  obtain ⟨rfl, rfl⟩ := ha
  rw [Nat.zero_add] at h1 h2
  have hfz : w.frozen? ⟨g, (fs.length - 1) * 2 + 1, none⟩ = false := World.ownsRow.frozenAt hO _
  have hp : 0 < line.size := by
    rcases Nat.eq_zero_or_pos line.size with e | e
    · have : line.data.toList = [] := List.length_eq_zero_iff.1 (by rw [size_list]; exact e)
      simp [goesOn, this] at h
    · exact e
  have hbl : blankB line[0] = true := by
    have e : line.data.toList.head? = some line[0] := by rw [List.head?_eq_getElem?]; exact get_list line 0 hp
    simp only [goesOn, e, Option.map_some, Option.getD_some, Bool.and_eq_true] at h
    exact h.2
  have hs2 : (S f.2).size ≤ 5000 := by rw [size_S]; exact hb f (List.mem_of_getElem? hf)
  have HI : Hid (0 ≤ Lib.indexByte [32, 9] line[0]) := (blank_index _).2 hbl
  have HW : Hid (∀ x : ByteArray, x = S f.2 ++ line → OwnF (w.setCell ⟨g, (fs.length - 1) * 2 + 1, none⟩ (.string x)) B (.slice (some ⟨g, 0, none⟩) fs.length cap) (addLast fs line.data.toList)) := by
    intro x hx
    have hx2 : x = S (f.2 ++ line.data.toList) := by
      rw [hx, ← S_list (S f.2 ++ line)]
      simp [ByteArray.data_append, list_S]
    have := own_set hO ((fs.length - 1) * 2 + 1) (.string x)
    rw [hx2, cellsF_set hf, ← addLast_eq hf] at this
    have el : (addLast fs line.data.toList).length = fs.length := by rw [addLast_eq hf, List.length_set]
    unfold OwnF
    rw [el, hx2]
    exact this
  clear h hbl hb hf hO
  have hk1 : ((fs.length : Nat) : Int) - 1 = ((fs.length - 1 : Nat) : Int) := by omega
  go_enter Tryd.func38, Tryd.ntmps38
  go_wp2_with fail
  refine (indexByte_any _ _ _).mono ?_
  rintro e u ⟨rfl, rfl⟩
  obtain ⟨m, hm⟩ : ∃ m : Nat, Lib.indexByte (⟨#[32, 9]⟩ : ByteArray).data.toList ((line[0].toNat : Int)).toNat.toUInt8 = (m : Int) := by
    rw [u8_back]
    exact ⟨(Lib.indexByte [32, 9] line[0]).toNat, by have := HI.out; show Lib.indexByte [32, 9] line[0] = _; omega⟩
  rw [hm]
  clear hm
  go_wp2
  go_ret2
  exact ⟨rfl, HW.out _ rfl, (Below.refl _ _).setCell hB _⟩

theorem index_none {c : UInt8} (h : blankB c = false) : Lib.indexByte [32, 9] c = -1 := by
  have h1 : ¬ 0 ≤ Lib.indexByte [32, 9] c := fun h0 => by rw [(blank_index c).1 h0] at h; cases h
  unfold blankB at h
  simp only [Bool.or_eq_false_iff, beq_eq_false_iff_ne] at h
  have e1 : (32 == c) = false := by simpa using fun e => h.1 e.symm
  have e2 : (9 == c) = false := by simpa using fun e => h.2 e.symm
  simp [Lib.indexByte, e1, e2]
/-- A line that does not go on: there is no field yet, or it begins with no blank. -/
theorem not_on {fs : List F} {line : ByteArray} (hp : 0 < line.size) (h : goesOn fs line.data.toList = false) : fs = [] ∨ (0 < fs.length ∧ Hid (Lib.indexByte (⟨#[32, 9]⟩ : ByteArray).data.toList ((line[0].toNat : Int)).toNat.toUInt8 = -1)) := by
  by_cases h0 : fs = []
  · exact .inl h0
  · right
    refine ⟨List.length_pos_iff.2 h0, ?_⟩
    have e : line.data.toList.head? = some line[0] := by rw [List.head?_eq_getElem?]; exact get_list line 0 hp
    have hb : blankB line[0] = false := by
      simp only [goesOn, e, Option.map_some, Option.getD_some, Bool.and_eq_false_iff] at h
      rcases h with h | h
      · cases fs with
        | nil => exact absurd rfl h0
        | cons a t => simp at h
      · exact h
    unfold Hid
    rw [u8_back]
    exact index_none hb

theorem cell_pair_new (w : World) (x y : Value) (t : TypeId) : ∀ (j : Nat) u, [x, y][j]? = some u → (w.alloc (.cells #[x, y] t)).cell? ((⟨w.heap.size, 0, none⟩ : Addr).add j) = some u := by
  intro j u hj
  rw [Addr.add_lit, Nat.zero_add]
  match j, hj with
  | 0, hj => simp at hj; subst hj; simp
  | 1, hj => simp at hj; subst hj; simp
theorem cut_bytes (s : ByteArray) (l a b : List UInt8) (t : Bool) (sep : ByteArray) (hl : sep.data.toList = l) (h : Lib.cut s.data.toList l = (a, b, t)) :
    (⟨(Lib.cut s.data.toList sep.data.toList).1.toArray⟩ : ByteArray) = S a ∧ (⟨(Lib.cut s.data.toList sep.data.toList).2.1.toArray⟩ : ByteArray) = S b ∧ (Lib.cut s.data.toList sep.data.toList).2.2 = t := by
  rw [hl, h]; exact ⟨rfl, rfl, rfl⟩
theorem cutS_is (s sep : ByteArray) (l a b : List UInt8) (t : Bool) (hl : sep.data.toList = l) (h : Lib.cut s.data.toList l = (a, b, t)) (w : World) (hs : s.size < 4294967281) (hm : maxLenCell w) :
    Calls Tryd.prog 36 #[.string s, .string sep] w fun e w' => e = .returned (.tuple #[.string (S a), .string (S b), .bool t]) ∧ ∃ n, w' = w.drewN n := by
  have := cutS_any s sep w hs hm
  obtain ⟨e1, e2, e3⟩ := cut_bytes s l a b t sep hl h
  rwa [e1, e2, e3] at this
theorem isName_is (l : List UInt8) (b : Bool) (h : nameB l = b) (hl : l.length ≤ 5000) (w : World) :
    Calls Tryd.prog 58 #[.string (S l)] w fun e w' => e = .returned (.bool b) ∧ w' = w := by
  have := isName_any (S l) w (by rw [size_S]; unfold maxLen; omega)
  rwa [list_S, h] at this

set_option maxHeartbeats 2000000 in
/-- A line without a colon. -/
theorem take_nocolon (B : Nat) (v : Value) (fs : List F) (line : ByteArray) (w : World) (hO : OwnF w B v fs) (hm : maxLenCell w) (hp : 0 < line.size) (hl : line.size ≤ 5000) (hn : fs.length ≤ 30) (h : goesOn fs line.data.toList = false)
    (a b : List UInt8) (hc : Lib.cut line.data.toList [58] = (a, b, false)) :
    Calls Tryd.prog 38 #[v, .string line] w fun e w' => e = .returned (.tuple #[.slice none 0 0, .int .i64 3]) ∧ Below w.heap.size w w' := by
  obtain ⟨a0, cap, rfl⟩ := hO.any
  have HC : Hid _ := hc
  clear hc
  rcases not_on hp h with rfl | ⟨h0, HI⟩
  case' inl =>
    clear h hO
    go_enter Tryd.func38, Tryd.ntmps38
    go_wp2_with fail
  case' inr =>
    clear h hO
    go_enter Tryd.func38, Tryd.ntmps38
    go_wp2_with fail
    refine (indexByte_any _ _ _).mono ?_
    rintro e u ⟨rfl, rfl⟩
    rw [HI.out]
    go_wp2_with fail
  all_goals
    refine (cutS_is line _ [58] a b false rfl HC.out _ (by omega) hm).mono ?_
    rintro e u ⟨rfl, q, rfl⟩
    go_wp2
    go_ret2
    exact ⟨rfl, bdrew (Below.refl _ _) _⟩

set_option maxHeartbeats 2000000 in
/-- What is ahead of the colon is no name. -/
theorem take_noname (B : Nat) (v : Value) (fs : List F) (line : ByteArray) (w : World) (hO : OwnF w B v fs) (hm : maxLenCell w) (hp : 0 < line.size) (hl : line.size ≤ 5000) (hn : fs.length ≤ 30) (h : goesOn fs line.data.toList = false)
    (a b : List UInt8) (hc : Lib.cut line.data.toList [58] = (a, b, true)) (ha : nameB a = false) (hal : a.length ≤ 5000) :
    Calls Tryd.prog 38 #[v, .string line] w fun e w' => e = .returned (.tuple #[.slice none 0 0, .int .i64 3]) ∧ Below w.heap.size w w' := by
  obtain ⟨a0, cap, rfl⟩ := hO.any
  have HC : Hid _ := hc
  have HA : Hid _ := ha
  clear hc ha
  rcases not_on hp h with rfl | ⟨h0, HI⟩
  case' inl =>
    clear h hO
    go_enter Tryd.func38, Tryd.ntmps38
    go_wp2_with fail
  case' inr =>
    clear h hO
    go_enter Tryd.func38, Tryd.ntmps38
    go_wp2_with fail
    refine (indexByte_any _ _ _).mono ?_
    rintro e u ⟨rfl, rfl⟩
    rw [HI.out]
    go_wp2_with fail
  all_goals
    refine (cutS_is line _ [58] a b true rfl HC.out _ (by omega) hm).mono ?_
    rintro e u ⟨rfl, q, rfl⟩
    go_wp2_with fail
    refine (isName_is a false HA.out hal _).mono ?_
    rintro e u ⟨rfl, rfl⟩
    go_wp2
    go_ret2
    exact ⟨rfl, bdrew (Below.refl _ _) _⟩

set_option maxHeartbeats 2000000 in
/-- There are thirty fields. -/
theorem take_full (B : Nat) (v : Value) (fs : List F) (line : ByteArray) (w : World) (hO : OwnF w B v fs) (hm : maxLenCell w) (hp : 0 < line.size) (hl : line.size ≤ 5000) (hn : fs.length = 30) (h : goesOn fs line.data.toList = false)
    (a b : List UInt8) (hc : Lib.cut line.data.toList [58] = (a, b, true)) (ha : nameB a = true) (hal : a.length ≤ 5000) :
    Calls Tryd.prog 38 #[v, .string line] w fun e w' => e = .returned (.tuple #[.slice none 0 0, .int .i64 5]) ∧ Below w.heap.size w w' := by
  obtain ⟨a0, cap, rfl⟩ := hO.any
  have HC : Hid _ := hc
  have HA : Hid _ := ha
  clear hc ha
  rcases not_on hp h with rfl | ⟨h0, HI⟩
  · simp at hn
  · clear h hO
    rw [hn]
    go_enter Tryd.func38, Tryd.ntmps38
    go_wp2_with fail
    refine (indexByte_any _ _ _).mono ?_
    rintro e u ⟨rfl, rfl⟩
    rw [HI.out]
    go_wp2_with fail
    refine (cutS_is line _ [58] a b true rfl HC.out _ (by omega) hm).mono ?_
    rintro e u ⟨rfl, q, rfl⟩
    go_wp2_with fail
    refine (isName_is a true HA.out hal _).mono ?_
    rintro e u ⟨rfl, rfl⟩
    go_wp2
    go_ret2
    exact ⟨rfl, bdrew (Below.refl _ _) _⟩

set_option maxHeartbeats 2000000 in
set_option maxRecDepth 100000 in
/-- A field more. -/
theorem take_new (B : Nat) (v : Value) (fs : List F) (line : ByteArray) (w : World) (hO : OwnF w B v fs) (hBw : B ≤ w.heap.size) (hm : maxLenCell w) (hp : 0 < line.size) (hl : line.size ≤ 5000) (hn : fs.length < 30) (h : goesOn fs line.data.toList = false)
    (a b : List UInt8) (hc : Lib.cut line.data.toList [58] = (a, b, true)) (ha : nameB a = true) (hal : a.length ≤ 5000) :
    Calls Tryd.prog 38 #[v, .string line] w fun e w' => ∃ v', e = .returned (.tuple #[v', .int .i64 0]) ∧ OwnF w' B v' (fs ++ [(a, b)]) ∧ Below B w w' := by
  obtain ⟨i0, hi, hz0, hz1, hz2⟩ := info_parts infoField
  obtain ⟨a0, cap, rfl⟩ := hO.any
  have HC : Hid _ := hc
  have HA : Hid _ := ha
  have hO' : w.ownsRow B 63 2 (.slice a0 fs.length cap) fs.length (cellsF fs) := hO
  clear hc ha
  rcases not_on hp h with h0 | ⟨h0, HI⟩
  · clear h hO
    subst h0
    have hO2 : w.ownsRow B 63 2 (.slice a0 0 cap) 0 [] := hO'
    clear hO'
    go_enter Tryd.func38, Tryd.ntmps38
    go_wp2_with fail
    refine (cutS_is line _ [58] a b true rfl HC.out _ (by omega) hm).mono ?_
    rintro e u ⟨rfl, q, rfl⟩
    go_wp2_with fail
    refine (isName_is a true HA.out hal _).mono ?_
    rintro e u ⟨rfl, hu⟩
    have hu' := hu.symm
    subst hu'
    go_wp2_with (at_builtin; refine wpList_append_own _ rfl _ _ 44 rfl B 63 i0 _ 2 32 Tryd.underlying44 hi hz0 hz1 hz2 rfl (by decide) (.slice a0 0 cap) 0 [] rfl (World.ownsRow.alloc (show World.ownsRow (w.drewN q) _ _ _ _ _ _ from hO2) _) ⟨w.heap.size, 0, none⟩ 1 1 [.string (S a), .string (S b)] rfl rfl (cell_pair_new _ _ _ _) ?c2 ?c3 ?c4 ?c5 ?_)
    case c2 => intro u hu; simp at hu; rcases hu with rfl | rfl <;> rfl
    case c3 => unfold maxLen; omega
    case c4 => omega
    case c5 => simp; omega
    intro v' w2 hown' hgrow _
    have hB2 := ((bdrew (Below.refl B w) q).alloc (by simpa using hBw) _).grown hgrow (by simp; omega) (fun j hj => (World.ownsRow.lt hO2 j hj).1)
    clear hgrow
    go_wp2
    go_ret2
    exact ⟨v', rfl, by unfold OwnF; exact hown', hB2⟩
  · clear h hO
    go_enter Tryd.func38, Tryd.ntmps38
    go_wp2_with fail
    refine (indexByte_any _ _ _).mono ?_
    rintro e u ⟨rfl, hu⟩
    have hu' := hu.symm
    subst hu'
    rw [HI.out]
    go_wp2_with fail
    refine (cutS_is line _ [58] a b true rfl HC.out _ (by omega) hm).mono ?_
    rintro e u ⟨rfl, q, rfl⟩
    go_wp2_with fail
    refine (isName_is a true HA.out hal _).mono ?_
    rintro e u ⟨rfl, hu⟩
    have hu' := hu.symm
    subst hu'
    go_wp2_with (at_builtin; refine wpList_append_own _ rfl _ _ 44 rfl B 63 i0 _ 2 32 Tryd.underlying44 hi hz0 hz1 hz2 rfl (by decide) (.slice a0 fs.length cap) fs.length (cellsF fs) rfl (World.ownsRow.alloc (show World.ownsRow (w.drewN q) _ _ _ _ _ _ from hO') _) ⟨w.heap.size, 0, none⟩ 1 1 [.string (S a), .string (S b)] rfl rfl (cell_pair_new _ _ _ _) ?c2 ?c3 ?c4 ?c5 ?_)
    case c2 => intro u hu; simp at hu; rcases hu with rfl | rfl <;> rfl
    case c3 => unfold maxLen; omega
    case c4 => omega
    case c5 => simp; omega
    intro v' w2 hown' hgrow _
    have hB2 := ((bdrew (Below.refl B w) q).alloc (by simpa using hBw) _).grown hgrow (by simp; omega) (fun j hj => (World.ownsRow.lt hO' j hj).1)
    clear hgrow
    go_wp2
    go_ret2
    exact ⟨v', rfl, by unfold OwnF; rw [cellsF_append, cellsF_one, List.length_append]; exact hown', hB2⟩
end Go.Proofs.YtgbhaphgojlhaaaDoor
