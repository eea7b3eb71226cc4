/-
  What postroomkeep.masked does: the walk.
-/
import Derived.Test.YtaolohlpdampgabRows
import Derived.Test.YtaolohlpdampgabGlobLaws
import Derived.Test.YtaolohlpdampgabCut
import Derived.WalkKit
import Derived.WalkSpells
import Derived.WalkLawsBesides
import Derived.Laws.IdiomStrings
import Derived.Laws.BytesArg
namespace Go.Proofs.Ytaolohlpdampgab
open Go.RowKit

theorem infoByte : (Try.prog.info? 5).map (fun i => (i.zero, i.size, i.bytes)) = some (some (.int .u8 0), 1, 1) := by kernel_rfl

def maskB (s : ByteArray) : ByteArray := ⟨(mask s.data.toList).toArray⟩
theorem maskB_size (s : ByteArray) : (maskB s).size = 2 * s.size := by
  show (mask s.data.toList).toArray.size = _
  rw [List.size_toArray, mask_length, size_list]
theorem maskB_list (s : ByteArray) : (maskB s).data.toList = mask s.data.toList := by simp [maskB]

theorem lowB_append (a b : ByteArray) : (low (a ++ b)).data.toList = lowL a.data.toList ++ lowL b.data.toList := by
  rw [low_list, ByteArray.data_append, Array.toList_append, lowL_append]
theorem lowB_mask (s : ByteArray) : (low (maskB s)).data.toList = mask (lowL s.data.toList) := by
  rw [low_list, maskB_list, low_mask]
theorem lowB_one (c : UInt8) : lowL (ByteArray.mk #[c]).data.toList = [low1 c] := by simp [lowL]

/-- A string of one byte out of a new row. -/
theorem one_byte (c : UInt8) (u : World) : (convert 27 9 (.slice (some ⟨u.heap.size, 0, none⟩) 1 1)).run Try.prog (u.alloc (.cells #[.int .u8 c.toNat] 5)) = .ok (.string ⟨#[c]⟩) (u.alloc (.cells #[.int .u8 c.toNat] 5)) := by
  have := run_convert_bytes_back (P := Try.prog) (u.alloc (.cells #[.int .u8 c.toNat] 5)) 27 9 5 ⟨u.heap.size, 0, none⟩ 1 [c] Try.underlying27 Try.underlying5 Try.underlying9 (fun j hj => by
    have hj0 : j = 0 := by simpa using hj
    subst hj0
    simp [Addr.add])
  exact this
theorem byte_of {a : Int} (h : (Lit.int .u8 a).wf = true) : ∃ c : UInt8, a = (c.toNat : Int) := by
  have hx : 0 ≤ a ∧ a ≤ 255 := by simpa [Lit.wf, IntKind.min, IntKind.max, IntKind.signed, IntKind.bits] using h
  refine ⟨UInt8.ofNat a.toNat, ?_⟩
  have : (UInt8.ofNat a.toNat).toNat = a.toNat := by simp; omega
  omega

def cellsB (l : List UInt8) : List Value := l.map fun c => .int .u8 c.toNat
theorem ownB_back {w : World} {base n : Nat} {v : Value} {l : List UInt8} (h : w.ownsRow base 5 1 v n (cellsB l)) :
    (convert 27 9 v).run Try.prog w = .ok (.string ⟨l.toArray⟩) w := by
  have hl : l.length = n := by have := h.1; simpa [cellsB] using this
  rcases h.2 with ⟨rfl, hn⟩ | ⟨g, cap, cur, rfl, _⟩
  · rw [run_convert_bytes_nil w 27 5 Try.underlying27 Try.underlying5 0 0 9 Try.underlying9]
    have : l = [] := List.length_eq_zero_iff.1 (by omega)
    subst this
    rfl
  · have := run_convert_bytes_back (P := Try.prog) w 27 9 5 ⟨g, 0, none⟩ cap l Try.underlying27 Try.underlying5 Try.underlying9 (fun j hj => by
      have e : (⟨g, 0, none⟩ : Addr).add j = ⟨g, j, none⟩ := by simp [Addr.add]; omega
      rw [e, h.cellAt j (by omega)]
      simp [cellsB, hj])
    rw [hl] at this
    exact this
theorem mask_snoc (s : ByteArray) (k : Nat) (h : k < s.size) : cellsB (mask (s.data.toList.take (k + 1))) = cellsB (mask (s.data.toList.take k)) ++ [.int .u8 92, .int .u8 (s[k].toNat : Int)] := by
  rw [take_snoc s k h, mask_append, cellsB, List.map_append]
  simp [mask, cellsB]

set_option maxHeartbeats 400000 in
/-- postroomkeep.masked: a backslash ahead of each byte. -/
theorem masked_any (s : ByteArray) (w : World) (hs : s.size ≤ 1048576) :
    Calls Try.prog 8 #[.string s] w fun e w' => e = .returned (.string (maskB s)) ∧ Below w.heap.size w w' := by
  obtain ⟨i0, hi, hz0, hz1, hz2⟩ := info_parts infoByte
  go_enter Try.func8, Try.ntmps8
  go_wp2
  go_loopw [3, 4] (fun v i wr => ∃ k : Nat, k ≤ s.size ∧ i = .int .i64 k ∧ wr.ownsRow w.heap.size 5 1 v (2 * k) (cellsB (mask (s.data.toList.take k))) ∧ Below w.heap.size w wr) (fun _ i _ => s.size - (intOf i).toNat)
  case atStart => exact ⟨0, Nat.zero_le _, rfl, World.ownsRow_nil _ _ _ _, Below.refl _ _⟩
  case round =>
    obtain ⟨k, hk, rfl, hown, hB⟩ := hrel
    by_cases hlt : k < s.size
    · have HS : Hid _ := mask_snoc s k hlt
      have hsz := hB.size
      go_wp2_with (at_builtin; refine wpList_append_own _ rfl _ _ 27 rfl w.heap.size 5 i0 (.int .u8 0) 1 1 Try.underlying27 hi hz0 hz1 hz2 rfl (by decide) _ _ _ rfl (hown.alloc _) ⟨wr.heap.size, 0, none⟩ 2 2 [.int .u8 92, .int .u8 (s[k].toNat : Int)] rfl rfl ?c1 ?c2 ?c3 ?c4 ?c5 ?_)
      case c1 =>
        intro j u hj
        match j, hj with
        | 0, hj => simp at hj; subst hj; simp [Addr.add]
        | 1, hj => simp at hj; subst hj; simp [Addr.add]
      case c2 => intro u hu; simp at hu; rcases hu with rfl | rfl <;> rfl
      case c3 => unfold maxLen; omega
      case c4 => omega
      case c5 => simp; omega
      intro v' w2 hown' hgrow _
      have hB2 : Below w.heap.size w w2 := (hB.alloc hsz _).grown hgrow (by simp; omega) (fun j hj => (hown.lt j hj).1)
      rw [← HS.out] at hown'
      clear hgrow hown
      go_wp2
      go_roundw
      case rel => exact ⟨k + 1, by omega, by go_num, hown', hB2⟩
      case measure => simp [intOf]; omega
    · have hk' : k = s.size := by omega
      subst hk'
      have hback := ownB_back hown
      rw [List.take_of_length_le (by rw [size_list]; omega)] at hback
      go_wp2
      go_ret
      exact ⟨rfl, hB⟩
end Go.Proofs.Ytaolohlpdampgab
