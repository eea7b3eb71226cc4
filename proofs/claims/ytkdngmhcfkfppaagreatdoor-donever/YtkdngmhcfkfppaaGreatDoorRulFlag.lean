/-
  The table of flags in memory, and what rule.flagOf and rule.Flags do: the walks.
-/
import Derived.Test.YtkdngmhcfkfppaaGreatDoorRulPur
import Derived.Test.YtkdngmhcfkfppaaGreatDoorScrMem
import Derived.Test.YtkdngmhcfkfppaaGreatDoorRows
import Derived.Test.YtkdngmhcfkfppaaGreatDoorTxt
namespace Go.Proofs.YtkdngmhcfkfppaaGreatDoor
open Go.RowKit Go.Proofs

def flagN (i : Nat) : List UInt8 := (flagTab.getD i ([], 0)).1
def flagV (i : Nat) : Nat := (flagTab.getD i ([], 0)).2
/-- The table of flags lies there. -/
def FlagsAt (w : World) : Prop := ∀ i : Nat, i < 5 → w.cell? ⟨4, i * 2, none⟩ = some (.string (S (flagN i))) ∧ w.cell? ⟨4, i * 2 + 1, none⟩ = some (.int .i64 (flagV i : Nat))
theorem FlagsAt.next {w w' : World} (h : FlagsAt w) (hb : Below w.heap.size w w') : FlagsAt w' := fun i hi => ⟨wcell_next (h i hi).1 hb, wcell_next (h i hi).2 hb⟩
def flagPartG (i : Nat) (s : List UInt8) : Nat := flagIn (flagTab.drop i) s
theorem flagPartG_step (i : Nat) (s : List UInt8) (h : i < 5) : flagPartG i s = if (flagN i) = s then (flagV i) else flagPartG (i + 1) s := by
  match i, h with
  | 0, _ | 1, _ | 2, _ | 3, _ | 4, _ => rfl

theorem flagS_ne {a b : List UInt8} (h : a ≠ b) : ((S a).toList == (S b).toList) = false := by rw [Lib.toList_data, Lib.toList_data, list_S, list_S]; simpa using h
set_option maxHeartbeats 8000000 in
set_option maxRecDepth 100000 in
theorem flagOf_any (s : List UInt8) (w : World) (hw : FlagsAt w) :
    Calls Tryz.prog 122 #[.string (S s)] w fun e w' => e = .returned (.int .i64 (flagP s : Nat)) ∧ Below w.heap.size w w' := by
  have a0 := (hw 0 (by omega)).1
  have a1 := (hw 1 (by omega)).1
  have a2 := (hw 2 (by omega)).1
  have a3 := (hw 3 (by omega)).1
  have a4 := (hw 4 (by omega)).1
  have b0 := (hw 0 (by omega)).2
  have b1 := (hw 1 (by omega)).2
  have b2 := (hw 2 (by omega)).2
  have b3 := (hw 3 (by omega)).2
  have b4 := (hw 4 (by omega)).2
  simp only [Nat.zero_mul, Nat.zero_add, Nat.one_mul, Nat.reduceMul, Nat.reduceAdd] at a0 a1 a2 a3 a4 b0 b1 b2 b3 b4
  have HN : Hid (flagP s = flagPartG 0 s) := rfl
  clear hw
  go_enter Tryz.func122, Tryz.ntmps122
  go_wp2
  go_loopw [6] (fun v wr => ∃ i : Nat, i ≤ 5 ∧ v = .int .i64 i ∧ Hid (Below w.heap.size w wr) ∧ Hid (flagP s = flagPartG i s)) (fun v _ => 5 - (intOf v).toNat)
  case atStart => exact ⟨0, by omega, rfl, Below.refl _ _, HN⟩
  case round =>
    obtain ⟨i, hi, rfl, HB, hN⟩ := hrel
    by_cases hlt : i < 5
    · have i1 : (i : Int) < 5 := by omega
      obtain ⟨nm, hnm⟩ : ∃ nm, nm = (flagN i) := ⟨_, rfl⟩
      obtain ⟨fl, hfl⟩ : ∃ fl, fl = (flagV i) := ⟨_, rfl⟩
      have hidx : ∀ w : World, (Instr.index 202 (.agg #[.string (S (flagN 0)), .int .i64 (flagV 0 : Nat), .string (S (flagN 1)), .int .i64 (flagV 1 : Nat), .string (S (flagN 2)), .int .i64 (flagV 2 : Nat), .string (S (flagN 3)), .int .i64 (flagV 3 : Nat), .string (S (flagN 4)), .int .i64 (flagV 4 : Nat)]) (.int .i64 i)).run Tryz.prog w = .ok (.agg #[.string (S nm), .int .i64 (fl : Nat)]) w := by
        intro w
        rw [hnm, hfl]
        match i, hlt with
        | 0, _ | 1, _ | 2, _ | 3, _ | 4, _ => rfl
      have HS := flagPartG_step i s hlt
      rw [← hnm, ← hfl] at HS
      have HBA := hid (HB.out.alloc (o := .cells #[.string (S nm), .int .i64 (fl : Nat)] 201) HB.out.size)
      by_cases hs : nm = s
      · have HE : Hid (flagP s = fl) := by unfold Hid; rw [hN.out, HS, if_pos hs]
        have hq : ((S nm).toList == (S s).toList) = true := by rw [hs]; simp
        clear HS hs hnm hfl
        go_wp2
        go_ret
        exact ⟨ret_int (by rw [HE.out]), HBA.out⟩
      · have HE : Hid (flagP s = flagPartG (i + 1) s) := by unfold Hid; rw [hN.out, HS, if_neg hs]
        have hq : ((S nm).toList == (S s).toList) = false := flagS_ne hs
        clear HS hs hnm hfl
        go_wp2
        case roundEnd => exact ⟨⟨i + 1, by omega, by go_num, HBA, HE⟩, by simp [intOf]; omega⟩
    · have i1 : ¬ (i : Int) < 5 := by omega
      have HE : Hid (flagP s = 0) := by
        have h5 : i = 5 := by omega
        unfold Hid; rw [hN.out, h5]; rfl
      go_wp2
      go_ret
      exact ⟨ret_int (by rw [HE.out]; rfl), HB.out⟩

theorem bits_all : ∀ n : Fin 32, ∀ f : Fin 32, bits .or .i64 ((n.val : Nat) : Int) ((f.val : Nat) : Int) = ((n.val ||| f.val : Nat) : Int) := by decide +kernel
theorem bits_or {n f : Nat} (hn : n < 32) (hf : f < 32) : bits .or .i64 (n : Int) (f : Int) = ((n ||| f : Nat) : Int) := bits_all ⟨n, hn⟩ ⟨f, hf⟩
def flagsT (o : Option Nat) : Value := match o with
  | some n => .tuple #[.int .i64 (n : Nat), .int .i64 0]
  | none => .tuple #[.int .i64 0, .int .i64 7]
theorem flagsG_step {n : Nat} {l : List (List UInt8)} {i : Nat} {x : List UInt8} (h : l[i]? = some x) : flagsG n (l.drop i) = if flagP x = 0 then none else flagsG (n ||| flagP x) (l.drop (i + 1)) := by
  have hi : i < l.length := (List.getElem?_eq_some_iff.1 h).1
  have e : l[i] = x := (List.getElem?_eq_some_iff.1 h).2
  rw [List.drop_eq_getElem_cons hi, e]; rfl
set_option maxHeartbeats 8000000 in
set_option maxRecDepth 100000 in
theorem flags_any (l : List (List UInt8)) (a : Option Addr) (c : Nat) (w : World) (hw : FlagsAt w) (hT : TxtsM anyB w (.slice a l.length c) l) :
    Calls Tryz.prog 91 #[.slice a l.length c] w fun e w' => e = .returned (flagsT (flagsP l)) ∧ Below w.heap.size w w' := by
  have HW := hid hw
  have HT := hid hT
  have hlm := hT.small
  unfold maxLen at hlm
  have HN : Hid (flagsP l = flagsG 0 (l.drop 0)) := rfl
  clear hw hT
  go_enter Tryz.func91, Tryz.ntmps91
  go_wp2
  go_loopw [4, 10] (fun f v wr => ∃ (i n : Nat), i ≤ l.length ∧ n < 32 ∧ f = .int .i64 (n : Nat) ∧ v = .int .i64 i ∧ Hid (Below w.heap.size w wr) ∧ Hid (flagsP l = flagsG n (l.drop i))) (fun _ v _ => l.length - (intOf v).toNat)
  case atStart => exact ⟨0, 0, by omega, by omega, rfl, rfl, Below.refl _ _, HN⟩
  case round =>
    obtain ⟨i, n, hi, hn, rfl, rfl, HB, hN⟩ := hrel
    by_cases hlt : i < l.length
    · have i1 : (i : Int) < (l.length : Int) := by omega
      have i0 : (0 : Int) ≤ (i : Int) := by omega
      obtain ⟨x, hx⟩ : ∃ x, l[i]? = some x := ⟨_, List.getElem?_eq_getElem hlt⟩
      have HS := hid (flagsG_step (n := n) hx)
      obtain ⟨a', c', hv, _, hr⟩ := HT.out.next HB.out
      simp only [Value.slice.injEq, true_and] at hv
      obtain ⟨rfl, rfl⟩ := hv
      obtain ⟨b, o, cs, rfl, hbl, _, _, hc, hP⟩ := hr i x hx
      have hcs : cs = [.string (S x)] := hP
      subst hcs
      have e0 : wr.cell? ⟨b, o + i, none⟩ = some (.string (S x)) := by simpa using hc 0 _ rfl
      have HWr := hid (HW.out.next HB.out)
      clear hc hr hP hx
      go_wp2_with fail
      refine (flagOf_any x wr HWr.out).mono ?_
      rintro e w2 ⟨rfl, hb2⟩
      have HB2 := hid (HB.out.trans (hb2.mono HB.out.size))
      have hfl := flagP_lt x
      clear hb2
      generalize flagP x = f at *
      by_cases hf : f = 0
      · subst hf
        have HE := hid (show flagsP l = none by rw [hN.out, HS.out, if_pos rfl])
        go_wp2
        go_ret2
        exact ⟨by rw [HE.out]; rfl, HB2.out⟩
      · have HE := hid (show flagsP l = flagsG (n ||| f) (l.drop (i + 1)) by rw [hN.out, HS.out, if_neg hf])
        have hfz : ((f : Int) == 0) = false := by simpa using hf
        have hor := lor_lt hn hfl
        go_wp2
        case roundEnd => exact ⟨⟨i + 1, n ||| f, by omega, hor, by rw [bits_or hn hfl], by go_num, HB2, HE⟩, by simp [intOf]; omega⟩
    · have i1 : ¬ (i : Int) < (l.length : Int) := by omega
      have HE := hid (show flagsP l = some n by rw [hN.out, List.drop_eq_nil_of_le (by omega)]; rfl)
      go_wp2
      go_ret2
      exact ⟨by rw [HE.out]; rfl, HB.out⟩
end Go.Proofs.YtkdngmhcfkfppaaGreatDoor
