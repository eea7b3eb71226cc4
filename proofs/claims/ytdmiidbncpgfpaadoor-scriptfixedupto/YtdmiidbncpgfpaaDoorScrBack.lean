/-
  Plain facts on scripts: what is shown is read back. No program is named here.
-/
import Derived.Test.YtdmiidbncpgfpaaDoorScrRead
namespace Go.Proofs.YtdmiidbncpgfpaaDoor
open Go.RowKit

theorem skip_mark (c : UInt8) (r : List Tok) : skipP 5 [c] (markT c :: r) = some r := by unfold skipP markT; simp
theorem skip_other {c e : UInt8} (h : e ≠ c) (r : List Tok) : skipP 5 [c] (markT e :: r) = none := by unfold skipP markT; simp [h]
theorem skip_str (c : UInt8) (x : List UInt8) (r : List Tok) : skipP 5 [c] (strT x :: r) = none := by unfold skipP strT; simp
theorem text_str (x : List UInt8) (r : List Tok) : textR (strT x :: r) = .ok (x, r) := by unfold textR takeKP strT thenR; simp
theorem take_mark (c : UInt8) (r : List Tok) : takeTP 5 [c] (markT c :: r) = .ok ((), r) := by unfold takeTP; rw [skip_mark]
theorem loop_back {A : Type} (f : List Tok → Rdg A) (g : A → List Tok) (tail : List Tok) (ht : skipP 5 [44] tail = none) : ∀ (ys acc : List A) (m : Nat), ys.length ≤ m → (∀ y ∈ ys, ∀ rest, f (g y ++ rest) = .ok (y, rest)) → loopF f m acc ((ys.flatMap fun y => markT 44 :: g y) ++ tail) = .ok (acc ++ ys, tail) := by
  intro ys
  induction ys with
  | nil =>
    intro acc m _ _
    simp only [List.flatMap_nil, List.nil_append, List.append_nil]
    cases m with
    | zero => rfl
    | succ m => unfold loopF; rw [ht]
  | cons y ys ih =>
    intro acc m hm hf
    cases m with
    | zero => simp at hm
    | succ m =>
      have e : ((y :: ys).flatMap fun y => markT 44 :: g y) ++ tail = markT 44 :: (g y ++ ((ys.flatMap fun y => markT 44 :: g y) ++ tail)) := by simp [List.append_assoc]
      rw [e, loopF, skip_mark]
      simp only
      rw [hf y (by simp)]
      show loopF f m (acc ++ [y]) _ = _
      rw [ih (acc ++ [y]) m (by simpa using hm) fun z hz => hf z (by simp [hz])]
      simp
theorem flat_len {A : Type} (g : A → List Tok) (tail : List Tok) (ys : List A) : ys.length ≤ ((ys.flatMap fun y => markT 44 :: g y) ++ tail).length := by
  induction ys with
  | nil => simp
  | cons y ys ih => simp only [List.flatMap_cons, List.length_append, List.length_cons] at ih ⊢; omega
theorem list_back (l : List (List UInt8)) (r : List Tok) (h : 0 < l.length) : listR (listT l ++ r) = .ok (l, r) := by
  match l, h with
  | [x], _ =>
    show listR (strT x :: r) = _
    unfold listR
    rw [skip_str]
    simp only
    rw [text_str]
    rfl
  | x :: y :: ys, _ =>
    have e : listT (x :: y :: ys) ++ r = markT 91 :: (strT x :: (((y :: ys).flatMap fun z => markT 44 :: [strT z]) ++ (markT 93 :: r))) := by
      show markT 91 :: (sepT (fun x => [strT x]) (x :: y :: ys) ++ [markT 93]) ++ r = _
      simp [sepT, List.append_assoc]
    rw [e]
    unfold listR
    rw [skip_mark]
    simp only
    rw [text_str]
    show thenR (loopF textR _ [x] _) _ = _
    rw [loop_back textR (fun z => [strT z]) (markT 93 :: r) (skip_other (by decide) r) (y :: ys) [x] _ (flat_len _ _ _) fun z _ rest => text_str z rest]
    show thenR (.ok _) _ = _
    unfold thenR
    simp only
    rw [take_mark]
    rfl
theorem number_back (k n : Nat) (hk : k < 4) (h1 : 1 ≤ n) (h2 : n ≤ 10) (hw : wordOf k n ≠ []) : numberP k (wordOf k n) = n := by
  match k, hk with
  | 0, _ | 1, _ | 2, _ | 3, _ =>
    match n, h1, h2, hw with
    | 1, _, _, hw | 2, _, _, hw | 3, _, _, hw | 4, _, _, hw | 5, _, _, hw | 6, _, _, hw | 7, _, _, hw | 8, _, _, hw | 9, _, _, hw | 10, _, _, hw => first | rfl | exact absurd rfl hw
theorem kind_back (k d n : Nat) (hk : k < 4) (hd : d ≤ 6) (h1 : 1 ≤ n) (h2 : n ≤ 10) (hw : wordOf k n ≠ []) (r : List Tok) : kindP k d (wordT (wordOf k n) :: r) = .ok (n, r) := by
  unfold kindP
  rw [if_neg (by omega)]
  simp only
  rw [show (wordT (wordOf k n)).text = wordOf k n from rfl, number_back k n hk h1 h2 hw, if_pos ⟨rfl, by omega⟩]
end Go.Proofs.YtdmiidbncpgfpaaDoor
