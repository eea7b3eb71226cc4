/-
  The table of words in memory, and what script.isNumberOf, script.numberOf and script.isNoTest do: the walks.
-/
import Derived.Test.YtbdpfoidhffalaaDoorScrRead
import Derived.Test.YtbdpfoidhffalaaDoorScrMem
import Derived.Test.YtbdpfoidhffalaaDoorTokMem
namespace Go.Proofs.YtbdpfoidhffalaaDoor
open Go.RowKit Go.Proofs

/-- The table lies there. -/
def WordsAt (w : World) : Prop := ∀ k n : Nat, k < 4 → n < 11 → w.cell? ⟨1, k * 11 + n, none⟩ = some (.string (S (wordOf k n)))
theorem WordsAt.keeps {Q : Nat → Prop} {w w' : World} (h : WordsAt w) (hk : Keeps Q w w') (hq : Q 1) : WordsAt w' := fun k n hk' hn =>
  (World.cell?_of_block (w := w) (hk.block _ (World.block_lt_of_cell? w _ (h k n hk' hn)) hq)).trans (h k n hk' hn)
theorem WordsAt.next {w w' : World} (h : WordsAt w) (hb : Below w.heap.size w w') : WordsAt w' := h.keeps (Q := anyB) (Keeps.of_below hb) trivial
theorem WordsAt.but {w w' : World} {r : Nat} (h : WordsAt w) (hb : But r w w') (hr : 1 < r) : WordsAt w' := h.keeps (Q := fun b => b ≠ r) (Keeps.of_but hb fun _ h => h) (by show 1 ≠ r; omega)
theorem WordsAt.pos {w : World} (h : WordsAt w) : 1 < w.heap.size := World.block_lt_of_cell? w _ (h 0 0 (by omega) (by omega))
theorem WordsAt.drew {w : World} (h : WordsAt w) : WordsAt w.drew := h

theorem S_empty (l : List UInt8) : (S l).toList.isEmpty = l.isEmpty := by rw [Lib.toList_data, list_S]
theorem S_ne {a b : List UInt8} (h : a ≠ b) : ((S a).toList == (S b).toList) = false := by rw [Lib.toList_data, Lib.toList_data, list_S, list_S]; simpa using h
theorem S_same {a b : List UInt8} (h : a = b) : ((S a).toList == (S b).toList) = true := by rw [h]; simp
theorem S_eq_iff (a b : List UInt8) : (S a = S b) ↔ a = b := ⟨fun h => by have := congrArg (fun x : ByteArray => x.data.toList) h; simpa [list_S] using this, fun h => by rw [h]⟩

set_option maxHeartbeats 2000000 in
theorem isNum_any (k : Nat) (hk : k < 4) (n : Int) (w : World) (hw : WordsAt w) :
    Calls Tryd.prog 59 #[.int .i64 k, .int .i64 n] w fun e w' => e = .returned (.bool (isNumP k n)) ∧ w' = w := by
  by_cases h0 : 0 ≤ n
  · by_cases h1 : n < 11
    · obtain ⟨m, rfl⟩ := Int.eq_ofNat_of_zero_le h0
      have hm : m < 11 := by omega
      have hc := hw k m hk hm
      have k4 : (k : Int) < 4 := by omega
      have k0 : (0 : Int) ≤ (k : Int) := by omega
      have HR : Hid (isNumP k (m : Int) = !(S (wordOf k m)).toList.isEmpty) := by unfold Hid isNumP; rw [S_empty]; simp; omega
      clear hw
      go_enter Tryd.func59, Tryd.ntmps59
      go_wp2
      go_ret
      exact ⟨ret_bool HR.out.symm, rfl⟩
    · have HR : Hid (isNumP k n = false) := by unfold Hid isNumP; simp [h1]
      go_enter Tryd.func59, Tryd.ntmps59
      go_wp2
      go_ret
      exact ⟨ret_bool HR.out.symm, rfl⟩
  · have HR : Hid (isNumP k n = false) := by unfold Hid isNumP; simp [h0]
    go_enter Tryd.func59, Tryd.ntmps59
    go_wp2
    go_ret
    exact ⟨ret_bool HR.out.symm, rfl⟩

theorem numIn_step (l : List (List UInt8)) (i n : Nat) (s : List UInt8) (h : i < l.length) : numIn (l.drop i) n s = if l[i] = s then n else numIn (l.drop (i + 1)) (n + 1) s := by
  rw [List.drop_eq_getElem_cons h]; rfl
theorem row_len (k : Nat) (hk : k < 4) : (wTabs.getD k []).length = 11 := by
  match k, hk with
  | 0, _ | 1, _ | 2, _ | 3, _ => rfl
theorem row_at (k i : Nat) (h : i < (wTabs.getD k []).length) : (wTabs.getD k [])[i] = wordOf k i := by
  unfold wordOf
  rw [List.getD_eq_getElem?_getD (l := wTabs.getD k []), List.getElem?_eq_getElem h]; rfl

set_option maxHeartbeats 8000000 in
set_option maxRecDepth 100000 in
theorem number_any (k : Nat) (hk : k < 4) (s : List UInt8) (w : World) (hw : WordsAt w) :
    Calls Tryd.prog 91 #[.int .i64 k, .string (S s)] w fun e w' => e = .returned (.int .i64 (numberP k s : Nat)) ∧ w' = w := by
  have k4 : (k : Int) < 4 := by omega
  have k0 : (0 : Int) ≤ (k : Int) := by omega
  have q0 := hw k 0 hk (by omega)
  have q1 := hw k 1 hk (by omega)
  have q2 := hw k 2 hk (by omega)
  have q3 := hw k 3 hk (by omega)
  have q4 := hw k 4 hk (by omega)
  have q5 := hw k 5 hk (by omega)
  have q6 := hw k 6 hk (by omega)
  have q7 := hw k 7 hk (by omega)
  have q8 := hw k 8 hk (by omega)
  have q9 := hw k 9 hk (by omega)
  have q10 := hw k 10 hk (by omega)
  have hlen := row_len k hk
  have HN : Hid (numberP k s = numIn ((wTabs.getD k []).drop 0) 0 s) := rfl
  rw [Nat.add_zero] at q0
  go_enter Tryd.func91, Tryd.ntmps91
  go_wp2
  go_loopw [10] (fun v wr => ∃ i : Nat, i ≤ 11 ∧ v = .int .i64 i ∧ wr = w ∧ Hid (numberP k s = numIn ((wTabs.getD k []).drop i) i s)) (fun v _ => 11 - (intOf v).toNat)
  case atStart => exact ⟨0, by omega, rfl, rfl, HN⟩
  case round =>
    obtain ⟨i, hi, rfl, rfl, hN⟩ := hrel
    by_cases hlt : i < 11
    · have i1 : (i : Int) < 11 := by omega
      have hidx : ∀ w : World, (Instr.index 94 (.agg #[.string (S (wordOf k 0)), .string (S (wordOf k 1)), .string (S (wordOf k 2)), .string (S (wordOf k 3)), .string (S (wordOf k 4)), .string (S (wordOf k 5)), .string (S (wordOf k 6)), .string (S (wordOf k 7)), .string (S (wordOf k 8)), .string (S (wordOf k 9)), .string (S (wordOf k 10))]) (.int .i64 i)).run Tryd.prog w = .ok (.string (S (wordOf k i))) w := by
        intro w
        match i, hlt with
        | 0, _ | 1, _ | 2, _ | 3, _ | 4, _ | 5, _ | 6, _ | 7, _ | 8, _ | 9, _ | 10, _ => rfl
      have HS := numIn_step (wTabs.getD k []) i i s (by omega)
      rw [row_at k i (by omega)] at HS
      by_cases hs : wordOf k i = s
      · have HE : Hid (numberP k s = i) := by unfold Hid; rw [hN.out, HS, if_pos hs]
        have hq : ((S (wordOf k i)).toList == (S s).toList) = true := by rw [hs]; simp
        clear HS hs
        go_wp2
        go_ret
        exact ⟨ret_int (by rw [HE.out]), rfl⟩
      · have HE : Hid (numberP k s = numIn ((wTabs.getD k []).drop (i + 1)) (i + 1) s) := by unfold Hid; rw [hN.out, HS, if_neg hs]
        have hq : ((S (wordOf k i)).toList == (S s).toList) = false := S_ne hs
        clear HS hs
        go_wp2
        case roundEnd => exact ⟨⟨i + 1, by omega, by go_num, trivial, HE⟩, by simp [intOf]; omega⟩
    · have i1 : ¬ (i : Int) < 11 := by omega
      have HE : Hid (numberP k s = 0) := by unfold Hid; rw [hN.out, List.drop_eq_nil_of_le (by omega)]; rfl
      go_wp2
      go_ret
      exact ⟨ret_int (by rw [HE.out]; rfl), rfl⟩
end Go.Proofs.YtbdpfoidhffalaaDoor
