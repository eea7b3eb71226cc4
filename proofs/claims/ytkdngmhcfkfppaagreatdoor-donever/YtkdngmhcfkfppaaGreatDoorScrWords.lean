/-
  The table of words in memory, and what script.isNumberOf, script.numberOf and script.isNoTest do: the walks.
-/
import Derived.Test.YtkdngmhcfkfppaaGreatDoorScrRead
import Derived.Test.YtkdngmhcfkfppaaGreatDoorScrMem
import Derived.Test.YtkdngmhcfkfppaaGreatDoorTokMem
namespace Go.Proofs.YtkdngmhcfkfppaaGreatDoor
open Go.RowKit Go.Proofs

/-- The table lies there. -/
def WordsAt (w : World) : Prop := ∀ k n : Nat, k < 4 → n < 11 → w.cell? ⟨2, k * 11 + n, none⟩ = some (.string (S (wordOf k n)))
theorem WordsAt.keeps {Q : Nat → Prop} {w w' : World} (h : WordsAt w) (hk : Keeps Q w w') (hq : Q 2) : WordsAt w' := fun k n hk' hn =>
  (World.cell?_of_block (w := w) (hk.block _ (World.block_lt_of_cell? w _ (h k n hk' hn)) hq)).trans (h k n hk' hn)
theorem WordsAt.next {w w' : World} (h : WordsAt w) (hb : Below w.heap.size w w') : WordsAt w' := h.keeps (Q := anyB) (Keeps.of_below hb) trivial
theorem WordsAt.but {w w' : World} {r : Nat} (h : WordsAt w) (hb : But r w w') (hr : 2 < r) : WordsAt w' := h.keeps (Q := fun b => b ≠ r) (Keeps.of_but hb fun _ h => h) (by show 2 ≠ r; omega)
theorem WordsAt.pos {w : World} (h : WordsAt w) : 2 < w.heap.size := World.block_lt_of_cell? w _ (h 0 0 (by omega) (by omega))
theorem WordsAt.drew {w : World} (h : WordsAt w) : WordsAt w.drew := h

theorem S_empty (l : List UInt8) : (S l).toList.isEmpty = l.isEmpty := by rw [Lib.toList_data, list_S]
theorem S_ne {a b : List UInt8} (h : a ≠ b) : ((S a).toList == (S b).toList) = false := by rw [Lib.toList_data, Lib.toList_data, list_S, list_S]; simpa using h
theorem S_same {a b : List UInt8} (h : a = b) : ((S a).toList == (S b).toList) = true := by rw [h]; simp
theorem S_eq_iff (a b : List UInt8) : (S a = S b) ↔ a = b := ⟨fun h => by have := congrArg (fun x : ByteArray => x.data.toList) h; simpa [list_S] using this, fun h => by rw [h]⟩

set_option maxHeartbeats 2000000 in
theorem isNum_any (k : Nat) (hk : k < 4) (n : Int) (w : World) (hw : WordsAt w) :
    Calls Tryz.prog 127 #[.int .i64 k, .int .i64 n] w fun e w' => e = .returned (.bool (isNumP k n)) ∧ w' = w := by
  by_cases h0 : 0 ≤ n
  · by_cases h1 : n < 11
    · obtain ⟨m, rfl⟩ := Int.eq_ofNat_of_zero_le h0
      have hm : m < 11 := by omega
      have hc := hw k m hk hm
      have k4 : (k : Int) < 4 := by omega
      have k0 : (0 : Int) ≤ (k : Int) := by omega
      have HR : Hid (isNumP k (m : Int) = !(S (wordOf k m)).toList.isEmpty) := by unfold Hid isNumP; rw [S_empty]; simp; omega
      clear hw
      go_enter Tryz.func127, Tryz.ntmps127
      go_wp2
      go_ret
      exact ⟨ret_bool HR.out.symm, rfl⟩
    · have HR : Hid (isNumP k n = false) := by unfold Hid isNumP; simp [h1]
      go_enter Tryz.func127, Tryz.ntmps127
      go_wp2
      go_ret
      exact ⟨ret_bool HR.out.symm, rfl⟩
  · have HR : Hid (isNumP k n = false) := by unfold Hid isNumP; simp [h0]
    go_enter Tryz.func127, Tryz.ntmps127
    go_wp2
    go_ret
    exact ⟨ret_bool HR.out.symm, rfl⟩

theorem numIn_step (l : List (List UInt8)) (i n : Nat) (s : List UInt8) (h : i < l.length) : numIn (l.drop i) n s = if l[i] = s then n else numIn (l.drop (i + 1)) (n + 1) s := by
  rw [List.drop_eq_getElem_cons h]; rfl
theorem row_len (k : Nat) (hk : k < 4) : (wTabs.getD k []).length = 11 := by
  match k, hk with
  | 0, _ | 1, _ | 2, _ | 3, _ => rfl
theorem row_at (k i : Nat) (h : i < (wTabs.getD k []).length) : (wTabs.getD k [])[i] = wordOf k i := by
  unfold wordOf
  rw [List.getD_eq_getElem?_getD (l := wTabs.getD k []), List.getElem?_eq_getElem h]; rfl

end Go.Proofs.YtkdngmhcfkfppaaGreatDoor
