/-
  What glob.Match does, with each kind: the walks.
-/
import Derived.Test.YtaolohlpdampgabRows
import Derived.Test.YtaolohlpdampgabMatchIs
import Derived.Test.YtaolohlpdampgabMatches2
import Derived.Test.YtaolohlpdampgabShelf
namespace Go.Proofs.Ytaolohlpdampgab
open Go.RowKit

/-- Whether a text fits, both folded first. -/
def matchB (kind : Int) (s p : ByteArray) : Bool :=
  if kind = 1 then (low s).toList == (low p).toList else if kind = 2 then Lib.contains (low s).data.toList (low p).data.toList else globB (low s).data.toList (low p).data.toList
/-- What glob.Match answers. -/
def matchV (kind : Int) (s p : ByteArray) : Value :=
  if kind < 1 ∨ 3 < kind then .tuple #[.bool false, .int .i64 2] else if 2000 < s.size ∨ 100 < p.size then .tuple #[.bool false, .int .i64 1] else .tuple #[.bool (matchB kind s p), .int .i64 0]

theorem matchV_ok {kind : Int} {s p : ByteArray} (h1 : 1 ≤ kind) (h2 : kind ≤ 3) (hs : s.size ≤ 2000) (hp : p.size ≤ 100) : matchV kind s p = .tuple #[.bool (matchB kind s p), .int .i64 0] := by
  rw [matchV, if_neg (by omega), if_neg (by omega)]

set_option maxHeartbeats 400000 in
theorem match_contains (s p : ByteArray) (w : World) (hs : s.size ≤ 2000) (hp : p.size ≤ 100) (hm : maxLenCell w) :
    Calls Try.prog 7 #[.int .i64 2, .string s, .string p] w fun e w' => e = .returned (.tuple #[.bool (Lib.contains (low s).data.toList (low p).data.toList), .int .i64 0]) ∧ Below w.heap.size w w' := by
  have hl := low_size s
  have HL : Hid _ := hl
  clear hl
  have HM : Hid _ := hm
  clear hm
  go_enter Try.func7, Try.ntmps7
  go_wp2_with fail
  refine (small_any s _ (by omega)).mono ?_
  rintro e w1 ⟨rfl, hb1⟩
  go_wp2_with fail
  refine (small_any p _ (by omega)).mono ?_
  rintro e w2 ⟨rfl, hb2⟩
  have hb := hb1.trans (hb2.mono hb1.size)
  have HM2 : Hid _ := maxLenCell_below HM.out hb
  go_wp2_with fail
  refine (contains_any (low s) (low p) _ (by rw [HL.out]; omega) HM2.out).mono ?_
  rintro e w3 ⟨rfl, rfl⟩
  go_wp2
  go_ret2
  exact ⟨rfl, hb⟩

set_option maxHeartbeats 400000 in
theorem match_matches (s p : ByteArray) (w : World) (hs : s.size ≤ 2000) (hp : p.size ≤ 100) :
    Calls Try.prog 7 #[.int .i64 3, .string s, .string p] w fun e w' => e = .returned (.tuple #[.bool (globB (low s).data.toList (low p).data.toList), .int .i64 0]) ∧ Below w.heap.size w w' := by
  have HL : Hid _ := low_size s
  have HP : Hid _ := low_size p
  go_enter Try.func7, Try.ntmps7
  go_wp2_with fail
  refine (small_any s _ (by omega)).mono ?_
  rintro e w1 ⟨rfl, hb1⟩
  go_wp2_with fail
  refine (small_any p _ (by omega)).mono ?_
  rintro e w2 ⟨rfl, hb2⟩
  have hb := hb1.trans (hb2.mono hb1.size)
  go_wp2_with fail
  refine (matches_any (low s) (low p) _ (by rw [HL.out]; omega) (by rw [HP.out]; omega)).mono ?_
  rintro e w3 ⟨rfl, hb3⟩
  have hb' := hb.trans (hb3.mono hb.size)
  go_wp2
  go_ret2
  exact ⟨rfl, hb'⟩

set_option maxHeartbeats 400000 in
theorem match_kind (kind : Int) (s p : ByteArray) (w : World) (h : kind < 1 ∨ 3 < kind) :
    Calls Try.prog 7 #[.int .i64 kind, .string s, .string p] w fun e w' => e = .returned (.tuple #[.bool false, .int .i64 2]) ∧ Below w.heap.size w w' := by
  have h1 : (kind != 1) = true := by rw [bne_iff_ne]; omega
  have h2 : (kind != 2) = true := by rw [bne_iff_ne]; omega
  have h3 : (kind != 3) = true := by rw [bne_iff_ne]; omega
  go_enter Try.func7, Try.ntmps7
  go_wp2_with fail
  go_ret2
  exact ⟨rfl, Below.refl _ _⟩

set_option maxHeartbeats 400000 in
theorem match_size (kind : Int) (s p : ByteArray) (w : World) (h1 : 1 ≤ kind) (h2 : kind ≤ 3) (h : 2000 < s.size ∨ 100 < p.size) :
    Calls Try.prog 7 #[.int .i64 kind, .string s, .string p] w fun e w' => e = .returned (.tuple #[.bool false, .int .i64 1]) ∧ Below w.heap.size w w' := by
  have hk : kind = 1 ∨ kind = 2 ∨ kind = 3 := by omega
  by_cases hs : 2000 < s.size
  · rcases hk with rfl | rfl | rfl
    all_goals
      go_enter Try.func7, Try.ntmps7
      go_wp2_with fail
      go_ret2
      exact ⟨rfl, Below.refl _ _⟩
  · have hp : 100 < p.size := by omega
    rcases hk with rfl | rfl | rfl
    all_goals
      go_enter Try.func7, Try.ntmps7
      go_wp2_with fail
      go_ret2
      exact ⟨rfl, Below.refl _ _⟩

/-- glob.Match, at every argument. -/
theorem match_any (kind : Int) (s p : ByteArray) (w : World) (hm : maxLenCell w) :
    Calls Try.prog 7 #[.int .i64 kind, .string s, .string p] w fun e w' => e = .returned (matchV kind s p) ∧ Below w.heap.size w w' := by
  by_cases hk : kind < 1 ∨ 3 < kind
  · rw [matchV, if_pos hk]
    exact match_kind kind s p w hk
  · by_cases hz : 2000 < s.size ∨ 100 < p.size
    · rw [matchV, if_neg hk, if_pos hz]
      exact match_size kind s p w (by omega) (by omega) hz
    · rw [matchV, if_neg hk, if_neg hz]
      have h3 : kind = 1 ∨ kind = 2 ∨ kind = 3 := by omega
      rcases h3 with rfl | rfl | rfl
      · exact match_is s p w (by omega) (by omega)
      · exact match_contains s p w (by omega) (by omega) hm
      · exact match_matches s p w (by omega) (by omega)

/-- glob.Match with the kind Matches, where it is known whether the text matches. -/
theorem match3 (s p : ByteArray) (b : Bool) (hs : s.size ≤ 2000) (hp : p.size ≤ 100) (hb : globB (low s).data.toList (low p).data.toList = b) (w : World) :
    Calls Try.prog 7 #[.int .i64 3, .string s, .string p] w fun e w' => e = .returned (.tuple #[.bool b, .int .i64 0]) ∧ Below w.heap.size w w' := by
  rw [← hb]
  exact match_matches s p w hs hp
theorem Below.next {B : Nat} {a b c : World} (h : Below B a b) (k : Below b.heap.size b c) (hB : B ≤ a.heap.size) : Below B a c := h.trans (k.mono (Nat.le_trans hB h.size))
theorem Below.more {B : Nat} {a b : World} (h : Below B a b) (hB : B ≤ a.heap.size) (o : Obj) : Below B a (b.alloc o) := h.alloc (Nat.le_trans hB h.size) o
/-- All old cells and marks read as before. -/
theorem bcell {W w1 : World} (hb : Below W.heap.size W w1) : (∀ b o, b < W.heap.size → w1.cell? ⟨b, o, none⟩ = W.cell? ⟨b, o, none⟩) ∧ (∀ b o, b < W.heap.size → w1.frozen? ⟨b, o, none⟩ = W.frozen? ⟨b, o, none⟩) :=
  ⟨fun b o h => hb.cell (p := ⟨b, o, none⟩) h, fun b o h => hb.frozen (p := ⟨b, o, none⟩) h⟩
end Go.Proofs.Ytaolohlpdampgab
