/-
  The tables of package rule in memory, and what its small functions do: the walks.
  What a script requires, as a map in memory, and what asks it: the walks.
  What rule.requiresAhead and rule.requiredBy do: the walks.
  What rule.requiredBy does: the walk.
-/
import Derived.Test.YtkdngmhcfkfppaaGreatDoorRulName
import Derived.Test.YtkdngmhcfkfppaaGreatDoorScrMem
import Derived.Test.YtkdngmhcfkfppaaGreatDoorWhoRd
import Derived.Maps.OwnOps
import Derived.Maps.Views
import Derived.Test.YtkdngmhcfkfppaaGreatDoorScrCk
import Derived.Maps.OwnSet
namespace Go.Proofs.YtkdngmhcfkfppaaGreatDoor
open Go.RowKit Go.Proofs

/-- The tables of names lie there. -/
def TabAt (w : World) (g : Nat) (l : List (List UInt8)) : Prop := ∀ (i : Nat) x, l[i]? = some x → w.cell? ⟨g, i, none⟩ = some (.string (S x))
theorem TabAt.next {w w' : World} {g : Nat} {l : List (List UInt8)} (h : TabAt w g l) (hb : Below w.heap.size w w') : TabAt w' g l := fun i x hx => wcell_next (h i x hx) hb
def extT : List (List UInt8) := [fileW, rejW, envW, flgW]
def partT : List (List UInt8) := [fromW, toW]
def needT : List (List UInt8) := [[], [], [], [], [], fileW, [], rejW, flgW, flgW, []]
theorem tabS_ne {a b : List UInt8} (h : a ≠ b) : ((S a).toList == (S b).toList) = false := by rw [Lib.toList_data, Lib.toList_data, list_S, list_S]; simpa using h
theorem extP_step (i : Nat) (s : List UInt8) : (extT.drop i).contains s = match extT[i]? with
    | some x => decide (x = s) || (extT.drop (i + 1)).contains s
    | none => false := by
  match i with
  | 0 | 1 | 2 | 3 => simp [extT, eq_comm]
  | i + 4 => simp [extT]
theorem extP_is (s : List UInt8) : extP s = (extT.drop 0).contains s := by
  simp [extP, extT, Bool.or_assoc]
theorem partP_step (i : Nat) (s : List UInt8) : (partT.drop i).contains s = match partT[i]? with
    | some x => decide (x = s) || (partT.drop (i + 1)).contains s
    | none => false := by
  match i with
  | 0 | 1 => simp [partT, eq_comm]
  | i + 2 => simp [partT]
theorem partP_is (s : List UInt8) : partP s = (partT.drop 0).contains s := by
  simp [partP, partT]

set_option maxHeartbeats 4000000 in
set_option maxRecDepth 100000 in
theorem isExt_any (s : List UInt8) (w : World) (hw : TabAt w 0 extT) :
    Calls Tryz.prog 72 #[.string (S s)] w fun e w' => e = .returned (.bool (extP s)) ∧ w' = w := by
  have a0 := hw 0 _ rfl
  have a1 := hw 1 _ rfl
  have a2 := hw 2 _ rfl
  have a3 := hw 3 _ rfl
  have HN := hid (extP_is s)
  clear hw
  go_enter Tryz.func72, Tryz.ntmps72
  go_wp2
  go_loopw [6] (fun v wr => ∃ i : Nat, i ≤ 4 ∧ v = .int .i64 i ∧ wr = w ∧ Hid (extP s = (extT.drop i).contains s)) (fun v _ => 4 - (intOf v).toNat)
  case atStart => exact ⟨0, by omega, rfl, rfl, HN⟩
  case round =>
    obtain ⟨i, hi, rfl, rfl, hN⟩ := hrel
    by_cases hlt : i < 4
    · have i1 : (i : Int) < 4 := by omega
      obtain ⟨nm, hnm⟩ : ∃ nm, extT[i]? = some nm := ⟨_, List.getElem?_eq_getElem (by simpa [extT] using hlt)⟩
      have hidx : ∀ w : World, (Instr.index 159 (.agg #[.string (S fileW), .string (S rejW), .string (S envW), .string (S flgW)]) (.int .i64 i)).run Tryz.prog w = .ok (.string (S nm)) w := by
        intro w
        match i, hlt with
        | 0, _ | 1, _ | 2, _ | 3, _ => cases hnm; rfl
      have HS := extP_step i s
      rw [hnm] at HS
      simp only at HS
      by_cases hs : nm = s
      · have HE := hid (show extP s = true by rw [hN.out, HS]; simp [hs])
        have hq : ((S nm).toList == (S s).toList) = true := by rw [hs]; simp
        clear HS hs hnm
        go_wp2
        go_ret
        exact ⟨ret_bool HE.out.symm, rfl⟩
      · have HE := hid (show extP s = (extT.drop (i + 1)).contains s by rw [hN.out, HS]; simp [hs])
        have hq : ((S nm).toList == (S s).toList) = false := tabS_ne hs
        clear HS hs hnm
        go_wp2
        case roundEnd => exact ⟨⟨i + 1, by omega, by go_num, trivial, HE⟩, by simp [intOf]; omega⟩
    · have i1 : ¬ (i : Int) < 4 := by omega
      have HE := hid (show extP s = false by rw [hN.out, List.drop_eq_nil_of_le (by simp [extT]; omega)]; rfl)
      go_wp2
      go_ret
      exact ⟨ret_bool HE.out.symm, rfl⟩

set_option maxHeartbeats 4000000 in
set_option maxRecDepth 100000 in
theorem isPart_any (s : List UInt8) (w : World) (hw : TabAt w 7 partT) :
    Calls Tryz.prog 168 #[.string (S s)] w fun e w' => e = .returned (.bool (partP s)) ∧ w' = w := by
  have a0 := hw 0 _ rfl
  have a1 := hw 1 _ rfl
  have HN := hid (partP_is s)
  clear hw
  go_enter Tryz.func168, Tryz.ntmps168
  go_wp2
  go_loopw [6] (fun v wr => ∃ i : Nat, i ≤ 2 ∧ v = .int .i64 i ∧ wr = w ∧ Hid (partP s = (partT.drop i).contains s)) (fun v _ => 2 - (intOf v).toNat)
  case atStart => exact ⟨0, by omega, rfl, rfl, HN⟩
  case round =>
    obtain ⟨i, hi, rfl, rfl, hN⟩ := hrel
    by_cases hlt : i < 2
    · have i1 : (i : Int) < 2 := by omega
      obtain ⟨nm, hnm⟩ : ∃ nm, partT[i]? = some nm := ⟨_, List.getElem?_eq_getElem (by simpa [partT] using hlt)⟩
      have hidx : ∀ w : World, (Instr.index 224 (.agg #[.string (S fromW), .string (S toW)]) (.int .i64 i)).run Tryz.prog w = .ok (.string (S nm)) w := by
        intro w
        match i, hlt with
        | 0, _ | 1, _ => cases hnm; rfl
      have HS := partP_step i s
      rw [hnm] at HS
      simp only at HS
      by_cases hs : nm = s
      · have HE := hid (show partP s = true by rw [hN.out, HS]; simp [hs])
        have hq : ((S nm).toList == (S s).toList) = true := by rw [hs]; simp
        clear HS hs hnm
        go_wp2
        go_ret
        exact ⟨ret_bool HE.out.symm, rfl⟩
      · have HE := hid (show partP s = (partT.drop (i + 1)).contains s by rw [hN.out, HS]; simp [hs])
        have hq : ((S nm).toList == (S s).toList) = false := tabS_ne hs
        clear HS hs hnm
        go_wp2
        case roundEnd => exact ⟨⟨i + 1, by omega, by go_num, trivial, HE⟩, by simp [intOf]; omega⟩
    · have i1 : ¬ (i : Int) < 2 := by omega
      have HE := hid (show partP s = false by rw [hN.out, List.drop_eq_nil_of_le (by simp [partT]; omega)]; rfl)
      go_wp2
      go_ret
      exact ⟨ret_bool HE.out.symm, rfl⟩

theorem longP_step {l : List (List UInt8)} {i : Nat} {x : List UInt8} (h : l[i]? = some x) : longP (l.drop i) = (decide (100 < x.length) || longP (l.drop (i + 1))) := by
  have hi : i < l.length := (List.getElem?_eq_some_iff.1 h).1
  have e : l[i] = x := (List.getElem?_eq_some_iff.1 h).2
  rw [List.drop_eq_getElem_cons hi, e]; rfl
set_option maxHeartbeats 4000000 in
set_option maxRecDepth 100000 in
theorem isLong_any (l : List (List UInt8)) (a : Option Addr) (c : Nat) (w : World) (hT : TxtsM anyB w (.slice a l.length c) l) :
    Calls Tryz.prog 154 #[.slice a l.length c] w fun e w' => e = .returned (.bool (longP l)) ∧ w' = w := by
  have HT := hid hT
  have hlm := hT.small
  unfold maxLen at hlm
  have HN : Hid (longP l = longP (l.drop 0)) := rfl
  clear hT
  go_enter Tryz.func154, Tryz.ntmps154
  go_wp2
  go_loopw [7] (fun v wr => ∃ i : Nat, i ≤ l.length ∧ v = .int .i64 i ∧ wr = w ∧ Hid (longP l = longP (l.drop i))) (fun v _ => l.length - (intOf v).toNat)
  case atStart => exact ⟨0, by omega, rfl, rfl, HN⟩
  case round =>
    obtain ⟨i, hi, rfl, rfl, hN⟩ := hrel
    by_cases hlt : i < l.length
    · have i1 : (i : Int) < (l.length : Int) := by omega
      have i0 : (0 : Int) ≤ (i : Int) := by omega
      obtain ⟨x, hx⟩ : ∃ x, l[i]? = some x := ⟨_, List.getElem?_eq_getElem hlt⟩
      have HS := hid (longP_step hx)
      obtain ⟨a', c', hv, _, hr⟩ := HT.out
      simp only [Value.slice.injEq, true_and] at hv
      obtain ⟨rfl, rfl⟩ := hv
      obtain ⟨b, o, cs, rfl, hbl, _, _, hc, hP⟩ := hr i x hx
      have hcs : cs = [.string (S x)] := hP
      subst hcs
      have e0 : wr.cell? ⟨b, o + i, none⟩ = some (.string (S x)) := by simpa using hc 0 _ rfl
      have hsz : (S x).size = x.length := size_S x
      clear hc hr hP hx
      by_cases hf : 100 < x.length
      · have HE := hid (show longP l = true by rw [hN.out, HS.out]; simp [hf])
        have j1 : (100 : Int) < ((S x).size : Int) := by rw [hsz]; omega
        clear hsz
        go_wp2
        go_ret
        exact ⟨ret_bool HE.out.symm, rfl⟩
      · have HE := hid (show longP l = longP (l.drop (i + 1)) by rw [hN.out, HS.out]; simp [hf])
        have j1 : ¬ (100 : Int) < ((S x).size : Int) := by rw [hsz]; omega
        clear hsz
        go_wp2
        case roundEnd => exact ⟨⟨i + 1, by omega, by go_num, trivial, HE⟩, by simp [intOf]; omega⟩
    · have i1 : ¬ (i : Int) < (l.length : Int) := by omega
      have HE := hid (show longP l = false by rw [hN.out, List.drop_eq_nil_of_le (by omega)]; rfl)
      go_wp2
      go_ret
      exact ⟨ret_bool HE.out.symm, rfl⟩

set_option maxHeartbeats 4000000 in
theorem goal_any (s : List UInt8) (w : World) (hs : s.length ≤ maxLen) :
    Calls Tryz.prog 104 #[.string (S s)] w fun e w' => e = .returned (.int .i64 (goalP s)) ∧ Below w.heap.size w w' := by
  have HS := hid (show (S s).size ≤ maxLen by rw [size_S]; exact hs)
  have HL := hid (show listM (S s).data.toList = listM s by rw [list_S])
  obtain ⟨xs, er, hp⟩ : ∃ xs er, listM s = (xs, er) := ⟨(listM s).1, (listM s).2, rfl⟩
  have HP := hid hp
  clear hp
  go_enter Tryz.func104, Tryz.ntmps104
  go_wp2_with fail
  refine (list_any (S s) w HS.out).mono ?_
  rw [HL.out, HP.out]
  rintro e w1 ⟨a, c, rfl, _, hb1⟩
  simp only
  have HB1 := hid hb1
  clear hb1
  by_cases he : er = 0
  · subst he
    by_cases h1 : xs.length = 1
    · have HG := hid (show goalP s = 0 by unfold goalP; rw [HP.out, if_pos ⟨rfl, h1⟩])
      rw [h1]
      go_wp2
      go_ret
      exact ⟨ret_int HG.out.symm, HB1.out⟩
    · have HG := hid (show goalP s = 3 by unfold goalP; rw [HP.out, if_neg (fun h => h1 h.2)])
      have hne : ((xs.length : Int) == 1) = false := by simp; omega
      generalize xs.length = k at *
      go_wp2
      go_ret
      exact ⟨ret_int HG.out.symm, HB1.out⟩
  · have HG := hid (show goalP s = 3 by unfold goalP; rw [HP.out, if_neg (fun h => he h.1)])
    have hne : (er == 0) = false := by simpa using he
    go_wp2
    go_ret
    exact ⟨ret_int HG.out.symm, HB1.out⟩
end Go.Proofs.YtkdngmhcfkfppaaGreatDoor

namespace Go.Proofs.YtkdngmhcfkfppaaGreatDoor
open Go.RowKit Go.Proofs Go.Maps

theorem mapLaw : Keyed Tryz.prog 9 := string_keyed Tryz.underlying9
theorem mapZero (w : World) : (zeroValue 3).run Tryz.prog w = .ok (.int .i64 0) w := by kernel_rfl
/-- A map in a block counts how often each name stands in a list. -/
def ReqM (w : World) (B N : Nat) (Hs : List (List UInt8)) : Prop :=
  ∃ D : DataW Unit, w.ownsMap Tryz.prog 9 (plainElem Tryz.prog 3) B N D ∧ ∀ s : List UInt8, ∃ c : Int, D.atKey (.string s) (.lit (.int .i64 0)) = .lit (.int .i64 c) ∧ 0 ≤ c ∧ c ≤ N ∧ (0 < c ↔ s ∈ Hs)
theorem ReqM.next {w w' : World} {B N : Nat} {Hs : List (List UInt8)} (h : ReqM w B N Hs) (hb : Below w.heap.size w w') : ReqM w' B N Hs := by
  obtain ⟨D, ⟨es, clock, h1, h2⟩, h3⟩ := h
  exact ⟨D, ⟨es, clock, (hb.block _ (Array.getElem?_eq_some_iff.1 h1).1).trans h1, h2⟩, h3⟩
theorem ReqM.made (w : World) : ReqM (w.alloc (.map #[] 0)) w.heap.size 0 [] :=
  ⟨.map [], World.ownsMap_made _ _ _ _, fun s => ⟨0, rfl, Int.le_refl _, Int.le_refl _, by simp⟩⟩

set_option maxHeartbeats 4000000 in
set_option maxRecDepth 100000 in
theorem has_any (s : List UInt8) (hs : s.length ≤ maxLen) (w : World) (B N : Nat) (Hs : List (List UInt8)) (h : ReqM w B N Hs) :
    Calls Tryz.prog 102 #[.map (some B), .string (S s)] w fun e w' => e = .returned (.bool (hasP Hs s)) ∧ w' = w := by
  obtain ⟨D, hown, hD⟩ := h
  obtain ⟨c, hc, hc0, hcN, hiff⟩ := hD s
  by_cases h0 : s = []
  · subst h0
    have HR := hid (show hasP Hs [] = true from rfl)
    have hS0 : (S ([] : List UInt8)).toList = [] := by rw [Lib.toList_data, list_S]
    go_enter Tryz.func102, Tryz.ntmps102
    go_wp2
    go_ret
    exact ⟨ret_bool HR.out.symm, rfl⟩
  · have hkey : keyOf Tryz.prog 9 (.string (S s)) = some (.string s) := by
      have := Go.WideMaps.keyOf_string_mk Tryz.underlying9 (s := S s) (by rw [size_S]; exact hs)
      rw [list_S] at this
      exact this
    obtain ⟨c', hrun, hat, _⟩ := hown.lookup_int mapLaw Tryz.underlying105 Tryz.underlying3 (mapZero _) hkey
    have hcc : c' = c := by
      rw [hc] at hat
      simpa using hat.symm
    subst hcc
    have hq3 : ¬ (S s).toList = [] := by rw [Lib.toList_data, list_S]; exact h0
    have hq4 : (S s).toList.isEmpty = false := by rw [Lib.toList_data, list_S]; cases s with
      | nil => exact absurd rfl h0
      | cons a r => rfl
    by_cases hm : s ∈ Hs
    · have hp : 0 < c' := hiff.2 hm
      have HR := hid (show hasP Hs s = true by unfold hasP; simp [hm])
      clear hD hown hc hiff hat hkey
      go_enter Tryz.func102, Tryz.ntmps102
      go_wp2
      go_ret
      exact ⟨ret_bool HR.out.symm, rfl⟩
    · have hp : ¬ 0 < c' := fun h => hm (hiff.1 h)
      have HR := hid (show hasP Hs s = false by unfold hasP; simp [hm, h0])
      clear hD hown hc hiff hat hkey
      go_enter Tryz.func102, Tryz.ntmps102
      go_wp2
      go_ret
      exact ⟨ret_bool HR.out.symm, rfl⟩
end Go.Proofs.YtkdngmhcfkfppaaGreatDoor

namespace Go.Proofs.YtkdngmhcfkfppaaGreatDoor
open Go.RowKit Go.Proofs Go.Maps

theorem ahead_step {l : List Cmd} {i : Nat} {x : Cmd} (h : l[i]? = some x) : aheadP (l.drop i) = if x.kind = 1 then aheadP (l.drop (i + 1)) + 1 else 0 := by
  have hi : i < l.length := (List.getElem?_eq_some_iff.1 h).1
  have e : l[i] = x := (List.getElem?_eq_some_iff.1 h).2
  rw [List.drop_eq_getElem_cons hi, e]; rfl

set_option maxHeartbeats 4000000 in
set_option maxRecDepth 100000 in
theorem ahead_any (n : Nat) (l : List Cmd) (a : Option Addr) (k : Nat) (w : World) (h : CmdsM anyB n w (.slice a l.length k) l) :
    Calls Tryz.prog 40 #[.slice a l.length k] w fun e w' => e = .returned (.int .i64 (aheadP l : Nat)) ∧ Below w.heap.size w w' := by
  have H3 := hid h
  have hmx := h.small
  unfold maxLen at hmx
  have HR := hid (show aheadP l = 0 + aheadP (l.drop 0) by simp)
  clear h
  go_enter Tryz.func40, Tryz.ntmps40
  go_wp2
  go_loopw [7] (fun v wr => ∃ i : Nat, i ≤ l.length ∧ v = .int .i64 i ∧ Hid (Below w.heap.size w wr) ∧ Hid (aheadP l = i + aheadP (l.drop i))) (fun v _ => l.length - (intOf v).toNat)
  case atStart => exact ⟨0, Nat.zero_le _, rfl, Below.refl _ _, HR⟩
  case round =>
    obtain ⟨i, hi, rfl, HB, hN⟩ := hrel
    by_cases hlt : i < l.length
    · have i1 : (i : Int) < (l.length : Int) := by omega
      have i3 : (0 : Int) ≤ (i : Int) := by omega
      obtain ⟨x, hx⟩ : ∃ x, l[i]? = some x := ⟨_, List.getElem?_eq_getElem hlt⟩
      have HS := hid (ahead_step hx)
      obtain ⟨b, o, ax, cx, an, cn, ak, ck, at', ct, aa, ca, ae, ce, rfl, hbl, e0, e1, e2, e3, e4, e5, e6, e7, e8, e9, e10, e11, hT⟩ := cmd_at (H3.out.next HB.out) hx
      have HAL := hid (HB.out.alloc (o := .cells #[.int .i64 x.kind, .slice ax x.texts.length cx, .int .i64 x.test.kind, .int .i64 x.test.mat, .int .i64 x.test.part, .slice an x.test.names.length cn, .slice ak x.test.keys.length ck, .bool x.test.over, .int .i64 x.test.limit, .slice at' x.test.tests.length ct, .slice aa x.thn.length ca, .slice ae x.els.length ce] 65) HB.out.size)
      clear hx hT
      by_cases hk : x.kind = 1
      · have HN2 := hid (show aheadP l = (i + 1) + aheadP (l.drop (i + 1)) by rw [hN.out, HS.out, if_pos hk]; omega)
        have hkb : (x.kind == 1) = true := by simpa using hk
        clear hk
        go_wp2
        case roundEnd => exact ⟨⟨i + 1, by omega, by go_num, HAL, HN2⟩, by simp [intOf]; omega⟩
      · have HN2 := hid (show aheadP l = i by rw [hN.out, HS.out, if_neg hk]; omega)
        have hkb : (x.kind == 1) = false := by simpa using hk
        clear hk
        go_wp2
        go_ret
        exact ⟨ret_int (by rw [HN2.out]), HAL.out⟩
    · have i1 : ¬ (i : Int) < (l.length : Int) := by omega
      have HE := hid (show aheadP l = l.length by rw [hN.out, List.drop_eq_nil_of_le (by omega)]; show i + 0 = _; omega)
      go_wp2
      go_ret
      exact ⟨ret_int (by rw [HE.out]), HB.out⟩

/-- One name more is counted. -/
theorem ReqM.count {D : DataW Unit} {N : Nat} {Hs : List (List UInt8)} (hM : IsMap D) (h : ∀ s : List UInt8, ∃ c : Int, D.atKey (.string s) (.lit (.int .i64 0)) = .lit (.int .i64 c) ∧ 0 ≤ c ∧ c ≤ N ∧ (0 < c ↔ s ∈ Hs)) (x : List UInt8) (c : Int) (hc : D.atKey (.string x) (.lit (.int .i64 0)) = .lit (.int .i64 c)) (hx : WideAt.IsKeyLit (.string x)) :
    ∀ s : List UInt8, ∃ c' : Int, (D.put (.string x) (.lit (.int .i64 (c + 1)))).atKey (.string s) (.lit (.int .i64 0)) = .lit (.int .i64 c') ∧ 0 ≤ c' ∧ c' ≤ ((N + 1 : Nat) : Int) ∧ (0 < c' ↔ s ∈ Hs ++ [x]) := by
  intro s
  by_cases hs : s = x
  · subst hs
    obtain ⟨c1, h1, h2, h3, h4⟩ := h s
    have e : c1 = c := by rw [hc] at h1; simpa using h1.symm
    subst e
    exact ⟨c1 + 1, atKey_put_same hM hx _ _, by omega, by omega, by simp; omega⟩
  · obtain ⟨c1, h1, h2, h3, h4⟩ := h s
    refine ⟨c1, (atKey_put_other (by simpa using hs) _ _).trans h1, h2, by omega, ?_⟩
    rw [h4]; simp [hs]
end Go.Proofs.YtkdngmhcfkfppaaGreatDoor

namespace Go.Proofs.YtkdngmhcfkfppaaGreatDoor
open Go.RowKit Go.Proofs Go.Maps

/-- What requiredBy hands back. -/
def ReqdP (w : World) (l : List Cmd) (e : Ending) (w' : World) : Prop :=
  if (l.flatMap (·.texts)).all extP = true then (∃ N, e = .returned (.tuple #[.map (some w.heap.size), .int .i64 0]) ∧ ReqM w' w.heap.size N (l.flatMap (·.texts))) ∧ Below w.heap.size w w'
  else e = .returned (.tuple #[.map none, .int .i64 7]) ∧ Below w.heap.size w w'
theorem flat_step {l : List Cmd} {i : Nat} {x : Cmd} (h : l[i]? = some x) : (l.take (i + 1)).flatMap (·.texts) = (l.take i).flatMap (·.texts) ++ x.texts := by
  have hi : i < l.length := (List.getElem?_eq_some_iff.1 h).1
  have e : l[i] = x := (List.getElem?_eq_some_iff.1 h).2
  rw [List.take_succ_eq_append_getElem hi, List.flatMap_append, e]
  simp
theorem take_step {l : List (List UInt8)} {i : Nat} {x : List UInt8} (h : l[i]? = some x) : l.take (i + 1) = l.take i ++ [x] := by
  have hi : i < l.length := (List.getElem?_eq_some_iff.1 h).1
  have e : l[i] = x := (List.getElem?_eq_some_iff.1 h).2
  rw [List.take_succ_eq_append_getElem hi, e]
theorem flat_room {l : List Cmd} {i j : Nat} {x : Cmd} (h : l[i]? = some x) (hj : j ≤ x.texts.length) : ((l.take i).flatMap (·.texts) ++ x.texts.take j).length ≤ (l.flatMap (·.texts)).length := by
  have hi : i < l.length := (List.getElem?_eq_some_iff.1 h).1
  have h1 : l.flatMap (·.texts) = (l.take (i + 1)).flatMap (·.texts) ++ (l.drop (i + 1)).flatMap (·.texts) := by rw [← List.flatMap_append, List.take_append_drop]
  rw [h1, flat_step h]
  simp
  omega
theorem ext_short {s : List UInt8} (h : extP s = true) : s.length ≤ maxLen := by
  unfold maxLen
  simp only [extP, Bool.or_eq_true, decide_eq_true_eq] at h
  rcases h with ((rfl | rfl) | rfl) | rfl <;> decide

set_option maxHeartbeats 4000000 in
set_option maxRecDepth 100000 in
theorem reqBy_any (n : Nat) (l : List Cmd) (a : Option Addr) (k : Nat) (w : World) (hl : (l.flatMap (·.texts)).length ≤ 400) (hw : TabAt w 0 extT) (h : CmdsM anyB n w (.slice a l.length k) l) :
    Calls Tryz.prog 41 #[.slice a l.length k] w (ReqdP w l) := by
  have H3 := hid h
  have HW := hid hw
  have hmx := h.small
  unfold maxLen at hmx
  have hmm := @run_makeMap Tryz.prog
  clear h hw
  go_enter Tryz.func41, Tryz.ntmps41
  go_wp2
  clear hmm
  go_loopw [12] (fun v wr => ∃ i : Nat, i ≤ l.length ∧ v = .int .i64 i ∧ Hid (Below w.heap.size w wr) ∧ Hid (ReqM wr w.heap.size ((l.take i).flatMap (·.texts)).length ((l.take i).flatMap (·.texts))) ∧ Hid (((l.take i).flatMap (·.texts)).all extP = true)) (fun v _ => l.length - (intOf v).toNat)
  case atStart => exact ⟨0, Nat.zero_le _, rfl, (Below.refl _ _).alloc (Nat.le_refl _) _, ReqM.made w, rfl⟩
  case round =>
    obtain ⟨i, hi, rfl, HB, HM, HA⟩ := hrel
    by_cases hlt : i < l.length
    · have i1 : (i : Int) < (l.length : Int) := by omega
      have i3 : (0 : Int) ≤ (i : Int) := by omega
      obtain ⟨x, hx⟩ : ∃ x, l[i]? = some x := ⟨_, List.getElem?_eq_getElem hlt⟩
      have HX := hid hx
      obtain ⟨b, o, ax, cx, an, cn, ak, ck, at', ct, aa, ca, ae, ce, rfl, hbl, e0, e1, e2, e3, e4, e5, e6, e7, e8, e9, e10, e11, hT⟩ := cmd_at H3.out hx
      obtain ⟨_, _, _, _, _, _, _, _, _, _, _, _, m, hm, he, hT1, _, _, _⟩ := cmd_form hT
      simp only [List.cons.injEq, Value.slice.injEq, true_and, and_true] at he
      obtain ⟨⟨rfl, rfl⟩, -⟩ := he
      have HT1 := hid hT1
      clear hT hm hT1 hx
      replace e0 := wcell_next e0 HB.out
      replace e1 := wcell_next e1 HB.out
      replace e2 := wcell_next e2 HB.out
      replace e3 := wcell_next e3 HB.out
      replace e4 := wcell_next e4 HB.out
      replace e5 := wcell_next e5 HB.out
      replace e6 := wcell_next e6 HB.out
      replace e7 := wcell_next e7 HB.out
      replace e8 := wcell_next e8 HB.out
      replace e9 := wcell_next e9 HB.out
      replace e10 := wcell_next e10 HB.out
      replace e11 := wcell_next e11 HB.out
      obtain ⟨wo, hwo⟩ : ∃ wo, wo = wr := ⟨_, rfl⟩
      subst hwo
      obtain ⟨W1, hW1⟩ : ∃ W1, W1 = wo.alloc (.cells #[.int .i64 x.kind, .slice ax x.texts.length cx, .int .i64 x.test.kind, .int .i64 x.test.mat, .int .i64 x.test.part, .slice an x.test.names.length cn, .slice ak x.test.keys.length ck, .bool x.test.over, .int .i64 x.test.limit, .slice at' x.test.tests.length ct, .slice aa x.thn.length ca, .slice ae x.els.length ce] 65) := ⟨_, rfl⟩
      have HB1 := hid (show Below wo.heap.size wo W1 by rw [hW1]; exact (Below.refl _ _).alloc (Nat.le_refl _) _)
      have HWE := hid hW1
      clear hW1
      have hmt := HT1.out.small
      unfold maxLen at hmt
      go_wp2
      rw [← HWE.out]
      clear HWE e0 e1 e2 e3 e4 e5 e6 e7 e8 e9 e10 e11
      go_loopw [19] (fun v wr => ∃ j : Nat, j ≤ x.texts.length ∧ v = .int .i64 j ∧ Hid (Below w.heap.size w wr) ∧ Hid (ReqM wr w.heap.size ((l.take i).flatMap (·.texts) ++ x.texts.take j).length ((l.take i).flatMap (·.texts) ++ x.texts.take j)) ∧ Hid (((l.take i).flatMap (·.texts) ++ x.texts.take j).all extP = true)) (fun v _ => x.texts.length - (intOf v).toNat)
      case atStart => exact ⟨0, Nat.zero_le _, rfl, HB.out.trans (HB1.out.mono HB.out.size), by unfold Hid; simp only [List.take_zero, List.append_nil]; exact HM.out.next HB1.out, by unfold Hid; simp only [List.take_zero, List.append_nil]; exact HA.out⟩
      case round =>
        obtain ⟨j, hj, rfl, HB2, HM2, HA2⟩ := hrel
        by_cases hjl : j < x.texts.length
        · have j1 : (j : Int) < (x.texts.length : Int) := by omega
          have j3 : (0 : Int) ≤ (j : Int) := by omega
          obtain ⟨s, hs⟩ : ∃ s, x.texts[j]? = some s := ⟨_, List.getElem?_eq_getElem hjl⟩
          have HST := hid (take_step hs)
          have HRM := hid (flat_room HX.out (j := j + 1) (by omega))
          obtain ⟨a', c', hv, _, hr⟩ := HT1.out.next HB2.out
          simp only [Value.slice.injEq, true_and] at hv
          obtain ⟨rfl, rfl⟩ := hv
          obtain ⟨bt, ot, cs, rfl, hbt, _, _, hc, hP⟩ := hr j s hs
          have hcs : cs = [.string (S s)] := hP
          subst hcs
          have d0 : wr.cell? ⟨bt, ot + j, none⟩ = some (.string (S s)) := by simpa using hc 0 _ rfl
          have HSJ := hid hs
          clear hc hr hP hs
          go_wp2_with fail
          refine (isExt_any s wr (HW.out.next HB2.out)).mono ?_
          rintro e u ⟨rfl, hu⟩
          have hu' := hu.symm
          subst hu'
          clear hu
          by_cases hx : extP s = true
          · have HXE := hid hx
            rw [hx]
            clear hx
            obtain ⟨D, hown, hD⟩ := HM2.out
            have HD := hid hD
            have hkey : keyOf Tryz.prog 9 (.string (S s)) = some (.string s) := by
              have := Go.WideMaps.keyOf_string_mk Tryz.underlying9 (s := S s) (by rw [size_S]; exact ext_short HXE.out)
              rw [list_S] at this
              exact this
            have hNm : ((l.take i).flatMap (·.texts) ++ x.texts.take j).length < maxLen := by
              have := flat_room HX.out (j := j) (by omega)
              unfold maxLen; omega
            generalize hN : ((l.take i).flatMap (·.texts) ++ x.texts.take j).length = N at *
            clear hD
            go_wp2_with (first
              | (at_lookup; refine wpList_lookup_own_int _ rfl _ _ 105 rfl 9 3 .i64 mapLaw Tryz.underlying105 Tryz.underlying3 (mapZero _) w.heap.size N D rfl hown _ _ rfl hkey ?_; intro c hat hwc)
              | (at_mapUpdate; refine wpList_mapUpdate_own _ rfl _ _ _ 105 rfl 9 3 mapLaw Tryz.underlying105 _ w.heap.size N D rfl hown hNm _ _ _ rfl rfl hkey _ [] (plainElem_int Tryz.underlying3 (wrap64_wf _)) ?_; intro w1 hown1 hgrow1)
              | go_in)
            case roundEnd =>
              obtain ⟨c', h1, h2, h3, h4⟩ := HD.out s
              have hcc : c = c' := by rw [hat] at h1; simpa using h1
              subst hcc
              have hN2 : ((l.take i).flatMap (·.texts) ++ x.texts.take (j + 1)).length = N + 1 := by rw [HST.out, ← List.append_assoc, List.length_append, hN]; rfl
              have hN4 : N + 1 ≤ 400 := by have := HRM.out; rw [hN2] at this; omega
              have hwr : wrap64 (c + 1) = c + 1 := by
                unfold wrap64; omega
              rw [hwr] at hown1
              have HM4 := hid (show ReqM w1 w.heap.size ((l.take i).flatMap (·.texts) ++ x.texts.take (j + 1)).length ((l.take i).flatMap (·.texts) ++ x.texts.take (j + 1)) by
                rw [hN2, HST.out, ← List.append_assoc]
                exact ⟨_, hown1, ReqM.count hown.isMap HD.out s c hat trivial⟩)
              exact ⟨⟨j + 1, by omega, by go_num, HB2.out.grown hgrow1 HB2.out.size (fun j hj => by cases hj; exact Nat.le_refl _), HM4, by unfold Hid; rw [HST.out, ← List.append_assoc, List.all_append, HA2.out]; simp [HXE.out]⟩, by simp [intOf]; omega⟩
          · have hx : extP s = false := by simpa using hx
            have HE := hid (show ReqdP w l (.returned (.tuple #[.map none, .int .i64 7])) wr by
              unfold ReqdP
              rw [if_neg ?_]
              · exact ⟨rfl, HB2.out⟩
              · intro hall
                have := List.all_eq_true.1 hall s (List.mem_flatMap.2 ⟨x, List.mem_of_getElem? HX.out, List.mem_of_getElem? HSJ.out⟩)
                rw [hx] at this
                cases this)
            rw [hx]
            clear hx
            go_wp2
            go_ret2
            exact HE.out
        · have j1 : ¬ (j : Int) < (x.texts.length : Int) := by omega
          have hjx : j = x.texts.length := by omega
          have HM3 := hid (show ReqM wr w.heap.size ((l.take (i + 1)).flatMap (·.texts)).length ((l.take (i + 1)).flatMap (·.texts)) by
            rw [flat_step HX.out]
            rw [hjx, List.take_of_length_le (Nat.le_refl _)] at HM2
            exact HM2.out)
          have HA3 := hid (show ((l.take (i + 1)).flatMap (·.texts)).all extP = true by
            rw [flat_step HX.out]
            rw [hjx, List.take_of_length_le (Nat.le_refl _)] at HA2
            exact HA2.out)
          clear hjx
          go_wp2
          go_roundw
          case rel => exact ⟨i + 1, by omega, by go_num, HB2, HM3, HA3⟩
          case measure => simp [intOf]; omega
    · have i1 : ¬ (i : Int) < (l.length : Int) := by omega
      have hil : i = l.length := by omega
      have HE := hid (show ReqdP w l (.returned (.tuple #[.map (some w.heap.size), .int .i64 0])) wr by
        rw [hil, List.take_of_length_le (Nat.le_refl _)] at HM HA
        unfold ReqdP; rw [if_pos HA.out]; exact ⟨⟨_, rfl, HM.out⟩, HB.out⟩)
      clear hil
      go_wp2
      go_ret2
      exact HE.out
end Go.Proofs.YtkdngmhcfkfppaaGreatDoor
