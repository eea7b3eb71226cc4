/-
  Plain facts on values that go on in further lines; and what comparing two rows of texts does.
-/
import Derived.Test.YtdpdcaglldojiaaDoorLetLaws
import Derived.Test.YtdpdcaglldojiaaDoorLetVal
import Derived.Deep.QuietTactic
import Derived.BigQuiet
namespace Go.Proofs.YtdpdcaglldojiaaDoor
open Go.RowKit

theorem name_blank {n : List UInt8} (h : nameB n = true) {c : UInt8} (hc : c ∈ n) : blankB c = false := by
  have := nameC_le (name_mem h hc)
  simp only [blankB, Bool.or_eq_false_iff, beq_eq_false_iff_ne]
  exact ⟨by rintro rfl; exact absurd this.1 (by decide), by rintro rfl; exact absurd this.1 (by decide)⟩
theorem name13 {n : List UInt8} (h : nameB n = true) : (13 : UInt8) ∉ n := name_not h (by decide)
def foldV (x y : List UInt8) : List UInt8 := x ++ 32 :: (y ++ 9 :: x)
theorem fold_trim {x y : List UInt8} (hx : nameB x = true) : trimW (x ++ 32 :: y ++ (9 :: x ++ [32])) = foldV x y ∧ trimW (foldV x y) = foldV x y := by
  have hne := name_ne hx
  have hh : ∀ c, (foldV x y).head? = some c → blankB c = false := by
    intro c hc
    cases x with
    | nil => exact absurd rfl hne
    | cons a t => simp [foldV] at hc; subst hc; exact name_blank hx (by simp)
  have hl : ∀ c, (foldV x y).getLast? = some c → blankB c = false := by
    intro c hc
    have e : (foldV x y).getLast? = x.getLast? := by
      have e2 : foldV x y = (x ++ 32 :: y ++ [9]) ++ x := by simp [foldV]
      rw [e2, List.getLast?_append, List.getLast?_eq_some_getLast hne]
      rfl
    rw [e] at hc
    exact name_blank hx (List.mem_of_getLast? hc)
  constructor
  · have := trim_core (a := []) (m := foldV x y) (b := [32]) (by simp) (by simp [blankB]) hh hl
    have e : x ++ 32 :: y ++ (9 :: x ++ [32]) = [] ++ foldV x y ++ [32] := by simp [foldV]
    rw [e]; exact this
  · have := trim_core (a := []) (m := foldV x y) (b := []) (by simp) (by simp) hh hl
    simpa using this
theorem fold_parse {n x y : List UInt8} (hn : nameB n = true) (hx : nameB x = true) (hy : nameB y = true) (ln : n.length ≤ 8) (lx : x.length ≤ 8) (ly : y.length ≤ 8) :
    parseM (n ++ [58] ++ x ++ [13, 10, 32] ++ y ++ [13, 10, 9] ++ x ++ [32, 13, 10, 13, 10]) = ([(n, foldV x y)], [], 0, 0) := by
  have e : n ++ [58] ++ x ++ [13, 10, 32] ++ y ++ [13, 10, 9] ++ x ++ [32, 13, 10, 13, 10] = lineC (n, x) ++ [13, 10] ++ ((32 :: y) ++ [13, 10] ++ ((9 :: x ++ [32]) ++ [13, 10] ++ ([13, 10] ++ []))) := by
    simp [lineC]
  have hr : rawB (n, x) = true := by simp [rawB, hn, hasEnd_plain (name13 hx)]
  have hy13 : hasEnd (32 :: y) = false := hasEnd_plain (by have := name13 hy; simp [this])
  have hx13 : hasEnd (9 :: x ++ [32]) = false := hasEnd_plain (by have := name13 hx; simp [this])
  have t1 : takeF [] (lineC (n, x)) = ([(n, x)], 0) := takeF_field hn (by simp)
  have t2 : takeF [(n, x)] (32 :: y) = ([(n, x ++ 32 :: y)], 0) := by simp [takeF, goesOn, addLast, blankB]
  have t3 : takeF [(n, x ++ 32 :: y)] (9 :: x ++ [32]) = ([(n, x ++ 32 :: y ++ (9 :: x ++ [32]))], 0) := by simp [takeF, goesOn, addLast, blankB]
  unfold parseM
  rw [if_neg (by simp; omega), e, parse_go (lineC_end hr) (lineC_ne _) (by rw [t1]), t1]
  simp only
  rw [parse_go hy13 (by simp) (by rw [t2]), t2]
  simp only
  rw [parse_go hx13 (by simp) (by rw [t3]), t3]
  simp only
  rw [parse_end]
  simp only [List.map_cons, List.map_nil, trimF]
  rw [(fold_trim hx).1]
theorem fold_bad {x : List UInt8} (hx : nameB x = true) (lx : x.length ≤ 8) : parseM ([32] ++ x ++ [13, 10, 13, 10]) = ([], [], 0, 3) := by
  have e : [32] ++ x ++ [13, 10, 13, 10] = (32 :: x) ++ [13, 10] ++ [13, 10] := by simp
  have hx13 : hasEnd (32 :: x) = false := hasEnd_plain (by have := name13 hx; simp [this])
  have h58 : (58 : UInt8) ∉ 32 :: x := by have := name_not hx (c := 58) (by decide); simp [this]
  have t : takeF [] (32 :: x) = ([], 3) := by
    unfold takeF
    rw [if_neg (by simp [goesOn]), cut_nocolon h58, if_pos (.inl rfl)]
  unfold parseM
  rw [if_neg (by simp; omega), e, parse_bad hx13 (by simp) (by rw [t]; decide), t]
theorem fold_fault {n x y : List UInt8} (hn : nameB n = true) (hx : nameB x = true) (hy : nameB y = true) (ln : n.length ≤ 8) (lx : x.length ≤ 8) (ly : y.length ≤ 8) : faultM [(n, foldV x y)] [] = 0 := by
  have h1 := name13 hx
  have h2 := name13 hy
  have hv : valueB (foldV x y) = true := by
    have : hasEnd (foldV x y) = false := hasEnd_plain (by simp [foldV, h1, h2])
    simp [valueB, this, (fold_trim (y := y) hx).2]
  unfold faultM
  rw [if_neg (by simp), if_neg (by simp [mayF, hn, hv]), if_neg (by simp [sumF, sizeF, foldV]; omega)]
theorem fold_values (n v : List UInt8) : valuesM [(n, v)] n = [v] := by simp [valuesM, sameN]

set_option maxHeartbeats 1000000 in
theorem sameTK_any (a b : Option Addr) (c d : Nat) (ts : List (List UInt8)) (w : World) (hF : TextsAt w a ts) (hG : TextsAt w b ts) (hM1 : ts.length ≤ 2000000) :
    Calls Tryd.prog 11 #[.slice a ts.length c, .slice b ts.length d] w fun e w' => e = .returned (.bool true) ∧ Below w.heap.size w w' := by
  go_enter Tryd.func11, Tryd.ntmps11
  go_wp2
  go_loopw [5] (fun i wr => ∃ k : Nat, k ≤ ts.length ∧ i = .int .i64 k ∧ ∃ q, wr = w.drewN q) (fun i _ => ts.length - (intOf i).toNat)
  case atStart => exact ⟨0, Nat.zero_le _, rfl, 0, rfl⟩
  case round =>
    obtain ⟨k, hk, rfl, q, rfl⟩ := hrel
    by_cases hlt : k < ts.length
    · obtain ⟨f, hf⟩ : ∃ f, ts[k]? = some f := ⟨_, List.getElem?_eq_getElem hlt⟩
      obtain ⟨b1, o1, rfl, hb1, h1⟩ := hF k f hf
      obtain ⟨b2, o2, rfl, hb2, h2⟩ := hG k f hf
      clear hf
      go_wp2
      go_quiet (fail)
      go_wp2
      go_roundw
      case rel => first | exact ⟨k + 1, by omega, by go_num, _, rfl⟩ | ((repeat apply Exists.intro); exact ⟨⟨k + 1, by omega, by go_num, _, rfl⟩, rfl⟩) | (refine ⟨trivial, ?_⟩; (repeat apply Exists.intro); exact ⟨⟨k + 1, by omega, by go_num, _, rfl⟩, rfl⟩)
      case measure => simp [intOf]; omega
    · go_wp2
      go_ret
      exact ⟨rfl, bdrew (Below.refl _ _) _⟩
end Go.Proofs.YtdpdcaglldojiaaDoor
