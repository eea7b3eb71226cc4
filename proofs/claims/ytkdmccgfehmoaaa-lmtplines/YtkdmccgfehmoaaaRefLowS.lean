/-
  What the reference's lower does, for sessions: the walk.
-/
import Derived.Test.YtkdmccgfehmoaaaRefSes
import Derived.Laws.IdiomStrings
import Derived.WalkSpells
import Derived.WalkLawsBesides
namespace Go.Proofs.Ytkdmccgfehmoaaa
open Go.RowKit

theorem cell_low_fresh (w : World) (x : Value) (t : TypeId) : ∀ (j : Nat) u, [x][j]? = some u → (w.alloc (.cells #[x] t)).cell? ((⟨w.heap.size, 0, none⟩ : Addr).add j) = some u := by
  intro j u hj
  rw [Addr.add_lit, Nat.zero_add]
  match j, hj with
  | 0, hj => simp at hj; subst hj; simp
theorem inL_any (n a b : Int) (w : World) :
    Calls Try.prog 14 #[.int .i64 n, .int .i64 a, .int .i64 b] w fun e w' => e = .returned (.bool (decide (a ≤ n ∧ n ≤ b))) ∧ w' = w := by
  have h := in3_any n a b w
  rwa [show (decide (a ≤ n) && decide (n ≤ b)) = decide (a ≤ n ∧ n ≤ b) by simp] at h
theorem infoU8 : (Try.prog.info? 5).map (fun i => (i.zero, i.size, i.bytes)) = some (some (.int .u8 0), 1, 1) := by kernel_rfl

/-- The bytes as cells. -/
def cellsU8 (l : List UInt8) : List Value := l.map fun c => .int .u8 c.toNat

theorem own_back {w : World} {base n : Nat} {v : Value} {l : List UInt8} (h : w.ownsRow base 5 1 v n (cellsU8 l)) :
    (convert 72 9 v).run Try.prog w = .ok (.string ⟨l.toArray⟩) w := by
  have hl : l.length = n := by have := h.1; simpa [cellsU8] using this
  rcases h.2 with ⟨rfl, hn⟩ | ⟨g, cap, cur, rfl, _⟩
  · rw [run_convert_bytes_nil w 72 5 Try.underlying72 Try.underlying5 0 0 9 Try.underlying9]
    have : l = [] := List.length_eq_zero_iff.1 (by omega)
    subst this
    rfl
  · have := run_convert_bytes_back (P := Try.prog) w 72 9 5 ⟨g, 0, none⟩ cap l Try.underlying72 Try.underlying5 Try.underlying9 (fun j hj => by
      have e : (⟨g, 0, none⟩ : Addr).add j = ⟨g, j, none⟩ := by simp [Addr.add]; omega
      rw [e, h.cellAt j (by omega)]
      simp [cellsU8, hj])
    rw [hl] at this
    exact this

theorem cells_snoc (s : ByteArray) (k : Nat) (h : k < s.size) (x : Int) (hx : ((low1 s[k]).toNat : Int) = x) : cellsU8 (lowL (s.data.toList.take (k + 1))) = cellsU8 (lowL (s.data.toList.take k)) ++ [.int .u8 x] := by
  rw [take_snoc s k h, lowL, List.map_append, cellsU8, List.map_append]
  simp [← hx, lowL, cellsU8]

set_option maxHeartbeats 1000000 in
set_option maxRecDepth 100000 in
/-- postroomref.lower: the same answer. -/
theorem lower_any (s : ByteArray) (w : World) (hs : s.size ≤ 1048576) :
    Calls Try.prog 37 #[.string s] w fun e w' => e = .returned (.string (low s)) ∧ Below w.heap.size w w' := by
  obtain ⟨i0, hi, hz0, hz1, hz2⟩ := info_parts infoU8
  go_enter Try.func37, Try.ntmps37
  go_wp2
  go_loopw [3, 4] (fun v i wr => ∃ k : Nat, k ≤ s.size ∧ i = .int .i64 k ∧ wr.ownsRow w.heap.size 5 1 v k (cellsU8 (lowL (s.data.toList.take k))) ∧ Below w.heap.size w wr) (fun _ i _ => s.size - (intOf i).toNat)
  case atStart => exact ⟨0, Nat.zero_le _, rfl, World.ownsRow_nil _ _ _ _, Below.refl _ _⟩
  case round =>
    obtain ⟨k, hk, rfl, hown, hB⟩ := hrel
    by_cases hlt : k < s.size
    · have hu := s[k].toNat_lt
      by_cases hg : 65 ≤ (s[k].toNat : Int) ∧ (s[k].toNat : Int) ≤ 90
      · have hd : decide (65 ≤ (s[k].toNat : Int) ∧ (s[k].toNat : Int) ≤ 90) = true := decide_eq_true hg
        have HS : Hid _ := cells_snoc s k hlt ((s[k].toNat : Int) + 32) (low1_yes hg)
        obtain ⟨hg1, hg2⟩ := hg
        go_wp2_with fail
        refine (inL_any _ _ _ _).mono ?_
        rintro e w1 ⟨rfl, rfl⟩
        rw [hd]
        go_wp2_with (at_builtin; refine wpList_append_own _ rfl _ _ 72 rfl w.heap.size 5 i0 (.int .u8 0) 1 1 Try.underlying72 hi hz0 hz1 hz2 rfl (by decide) _ _ _ rfl (hown.alloc _) ⟨w1.heap.size, 0, none⟩ 1 1 [.int .u8 ((s[k].toNat : Int) + 32)] rfl rfl (cell_low_fresh _ _ _) ?c2 ?c3 ?c4 ?c5 ?_)
        case c2 => intro u hu; simp at hu; subst hu; rfl
        case c3 => unfold maxLen; omega
        case c4 => omega
        case c5 => have := hB.size; simp; omega
        intro v' w2 hown' hgrow _
        have hsz := hB.size
        have hB2 : Below w.heap.size w w2 := (hB.alloc hsz _).grown hgrow (by simp; omega) (fun j hj => (hown.lt j hj).1)
        rw [← HS.out] at hown'
        clear hgrow hown
        go_wp2
        go_roundw
        case rel => exact ⟨k + 1, by omega, by go_num, hown', hB2⟩
        case measure => simp [intOf]; omega
      · have hd : decide (65 ≤ (s[k].toNat : Int) ∧ (s[k].toNat : Int) ≤ 90) = false := decide_eq_false hg
        have HS : Hid _ := cells_snoc s k hlt (s[k].toNat : Int) (by rw [low1_no hg])
        go_wp2_with fail
        refine (inL_any _ _ _ _).mono ?_
        rintro e w1 ⟨rfl, rfl⟩
        rw [hd]
        go_wp2_with (at_builtin; refine wpList_append_own _ rfl _ _ 72 rfl w.heap.size 5 i0 (.int .u8 0) 1 1 Try.underlying72 hi hz0 hz1 hz2 rfl (by decide) _ _ _ rfl (hown.alloc _) ⟨w1.heap.size, 0, none⟩ 1 1 [.int .u8 (s[k].toNat : Int)] rfl rfl (cell_low_fresh _ _ _) ?d2 ?d3 ?d4 ?d5 ?_)
        case d2 => intro u hu; simp at hu; subst hu; rfl
        case d3 => unfold maxLen; omega
        case d4 => omega
        case d5 => have := hB.size; simp; omega
        intro v' w2 hown' hgrow _
        have hsz := hB.size
        have hB2 : Below w.heap.size w w2 := (hB.alloc hsz _).grown hgrow (by simp; omega) (fun j hj => (hown.lt j hj).1)
        rw [← HS.out] at hown'
        clear hgrow hown
        go_wp2
        go_roundw
        case rel => exact ⟨k + 1, by omega, by go_num, hown', hB2⟩
        case measure => simp [intOf]; omega
    · have hk' : k = s.size := by omega
      subst hk'
      have hback := own_back hown
      rw [List.take_of_length_le (by rw [size_list]; omega)] at hback
      go_wp2
      go_ret
      exact ⟨rfl, hB⟩

end Go.Proofs.Ytkdmccgfehmoaaa
