/-
  A value may go on in lines that begin with a blank: walked.
-/
import Derived.Test.YtdmjdhnncilaiaaDoorLetCard
import Derived.Test.YtdmjdhnncilaiaaDoorLetLines
import Derived.Test.YtdmjdhnncilaiaaDoorLetFolded
namespace Go.Proofs.YtdmjdhnncilaiaaDoor
open Go.ChangeShapes Go.WideShapes Go.ChangeAt Go.RowKit

theorem texts_one {w : World} {g : Nat} {t : List UInt8} (h : w.cell? ⟨g, 0, none⟩ = some (.string (S t))) : TextsAt w (some ⟨g, 0, none⟩) [t] := by
  intro i x hx
  cases i with
  | zero => simp at hx; subst hx; exact ⟨g, 0, rfl, World.block_lt_of_cell? w _ h, h⟩
  | succ i => simp at hx

set_option maxHeartbeats 8000000 in
set_option maxRecDepth 100000 in
theorem letterFolded_walk (w : World) (hm : maxLenCell w) (b0 : ByteArray) (h0 : b0.size ≤ maxLen) (b1 : ByteArray) (h1 : b1.size ≤ maxLen) (b2 : ByteArray) (h2 : b2.size ≤ maxLen) :
    Calls Tryd.prog 3 #[.string b0, .string b1, .string b2] w fun e w' => e = .returned (.bool true) ∧ Below w.heap.size w w' := by
  obtain ⟨n, hn⟩ : ∃ n, wordL b0.data.toList = n := ⟨_, rfl⟩
  obtain ⟨x, hx⟩ : ∃ n, wordL b1.data.toList = n := ⟨_, rfl⟩
  obtain ⟨y, hy⟩ : ∃ n, wordL b2.data.toList = n := ⟨_, rfl⟩
  have nn : nameB n = true := by rw [← hn]; exact word_name _
  have nx : nameB x = true := by rw [← hx]; exact word_name _
  have ny : nameB y = true := by rw [← hy]; exact word_name _
  have ln : n.length ≤ 8 := by rw [← hn]; exact wordL_len _
  have lx : x.length ≤ 8 := by rw [← hx]; exact wordL_len _
  have ly : y.length ≤ 8 := by rw [← hy]; exact wordL_len _
  have sn : (S n).size ≤ 8 := by rw [size_S]; exact ln
  have sx : (S x).size ≤ 8 := by rw [size_S]; exact lx
  have sy : (S y).size ≤ 8 := by rw [size_S]; exact ly
  have HT : Hid ((S n ++ ⟨#[58]⟩ ++ S x ++ ⟨#[13, 10, 32]⟩ ++ S y ++ ⟨#[13, 10, 9]⟩ ++ S x ++ ⟨#[32, 13, 10, 13, 10]⟩ : ByteArray).data.toList = n ++ [58] ++ x ++ [13, 10, 32] ++ y ++ [13, 10, 9] ++ x ++ [32, 13, 10, 13, 10]) := by
    unfold Hid; simp only [app_list, list_S]
  have HP : Hid (parseM (S n ++ ⟨#[58]⟩ ++ S x ++ ⟨#[13, 10, 32]⟩ ++ S y ++ ⟨#[13, 10, 9]⟩ ++ S x ++ ⟨#[32, 13, 10, 13, 10]⟩ : ByteArray).data.toList = ([(n, foldV x y)], (⟨#[]⟩ : ByteArray).data.toList, 0, 0)) := by
    unfold Hid; rw [HT.out]; exact fold_parse nn nx ny ln lx ly
  have HZ : Hid ((S n ++ ⟨#[58]⟩ ++ S x ++ ⟨#[13, 10, 32]⟩ ++ S y ++ ⟨#[13, 10, 9]⟩ ++ S x ++ ⟨#[32, 13, 10, 13, 10]⟩ : ByteArray).size ≤ maxLen) := by
    unfold Hid; rw [← size_list, HT.out]; unfold maxLen; simp; omega
  have HQ : Hid (parseM (⟨#[32]⟩ ++ S x ++ ⟨#[13, 10, 13, 10]⟩ : ByteArray).data.toList = ([], (⟨#[]⟩ : ByteArray).data.toList, 0, 3)) := by
    unfold Hid; simp only [app_list, list_S]; exact fold_bad nx lx
  have HZ2 : Hid ((⟨#[32]⟩ ++ S x ++ ⟨#[13, 10, 13, 10]⟩ : ByteArray).size ≤ maxLen) := by
    unfold Hid; rw [← size_list]; simp only [app_list, list_S]; unfold maxLen; simp; omega
  have HF : Hid (faultM [(n, foldV x y)] (⟨#[]⟩ : ByteArray).data.toList = 0) := fold_fault nn nx ny ln lx ly
  have HM : Hid (Mild [(n, foldV x y)] ⟨#[]⟩) := ⟨by simp, Nat.zero_le _, by intro f hf; simp at hf; subst hf; simp [foldV]; omega⟩
  have HV : Hid (valuesM [(n, foldV x y)] (S n).data.toList = [foldV x y]) := by unfold Hid; rw [list_S]; exact fold_values _ _
  have HW : Hid (S x ++ ⟨#[32]⟩ ++ S y ++ ⟨#[9]⟩ ++ S x = S (foldV x y)) := by
    unfold Hid
    rw [← S_list (S x ++ ⟨#[32]⟩ ++ S y ++ ⟨#[9]⟩ ++ S x)]
    simp only [app_list, list_S]
    simp [foldV]
  have H0 : Hid _ := h0
  have H1 : Hid _ := h1
  have H2 : Hid _ := h2
  have E0 : Hid _ := hn
  have E1 : Hid _ := hx
  have E2 : Hid _ := hy
  clear hn hx hy nn nx ny ln lx ly h0 h1 h2 HT
  go_enter Tryd.func3, Tryd.ntmps3
  go_wp2_with fail
  refine (word_any b0 _ H0.out).mono ?_
  rintro e w1 ⟨rfl, hb1⟩
  rw [E0.out]
  go_wp2_with fail
  refine (word_any b1 _ H1.out).mono ?_
  rintro e w2 ⟨rfl, hb2⟩
  rw [E1.out]
  go_wp2_with fail
  refine (word_any b2 _ H2.out).mono ?_
  rintro e w3 ⟨rfl, hb3⟩
  rw [E2.out]
  have hB3 := bnext (bnext hb1 hb2 (Nat.le_refl _)) hb3 (Nat.le_refl _)
  go_wp2_with fail
  refine (parse_isL _ [(n, foldV x y)] ⟨#[]⟩ 0 0 ?q1 _ ?q2 (maxLenCell_below hm hB3)).mono ?_
  case q1 => exact HP.out
  case q2 => exact HZ.out
  rintro e w4 ⟨a4, c4, rfl, hF4, hb4⟩
  have hB4 := bnext hB3 hb4 (Nat.le_refl _)
  have hN4 : Below w4.heap.size w4 (w4.alloc (.cells #[.slice a4 1 c4, .string ⟨#[]⟩] 25)) := (Below.refl _ _).alloc (Nat.le_refl _) _
  have hB4' := bnext hB4 hN4 (Nat.le_refl _)
  go_wp2_with fail
  refine (values_ok a4 c4 [(n, foldV x y)] ⟨#[]⟩ (S n) _ (hF4.below hN4) HM.out (maxLenCell_below hm hB4') HF.out (by omega)).mono ?_
  rintro e w5 ⟨a5, c5, rfl, hT5, hb5⟩
  rw [HV.out] at hT5 ⊢
  have hB5 := bnext hB4' hb5 (Nat.le_refl _)
  go_wp2_with fail
  refine (parse_isL _ [] ⟨#[]⟩ 0 3 ?q3 _ ?q4 (maxLenCell_below hm hB5)).mono ?_
  case q3 => exact HQ.out
  case q4 => exact HZ2.out
  rintro e w6 ⟨a6, c6, rfl, hF6, hb6⟩
  have hB6 := bnext hB5 hb6 (Nat.le_refl _)
  have hN6 : ∀ o, Below w6.heap.size w6 (w6.alloc o) := fun o => (Below.refl _ _).alloc (Nat.le_refl _) o
  go_wp2_with fail
  rw [HW.out]
  have hN7 : Below w6.heap.size w6 ((w6.alloc (.cells #[.slice a6 0 c6, .string ⟨#[]⟩] 25)).alloc (.cells #[.string (S (foldV x y))] 9)) := ((Below.refl _ _).alloc (Nat.le_refl _) _).alloc (by simp) _
  have hB7 := bnext hB6 hN7 (Nat.le_refl _)
  refine (sameTK_any a5 (some ⟨w6.heap.size + 1, 0, none⟩) c5 1 [foldV x y] _ ((hT5.below hb6).below hN7) (texts_one (by simp)) (by simp)).mono ?_
  rintro e w8 ⟨rfl, hb8⟩
  go_wp2
  go_ret
  exact ⟨rfl, bnext hB7 hb8 (Nat.le_refl _)⟩
end Go.Proofs.YtdmjdhnncilaiaaDoor
