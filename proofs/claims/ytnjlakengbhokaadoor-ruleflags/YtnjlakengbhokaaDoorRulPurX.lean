
/-
  Plain facts on scripts that are allowed: flags, names of boxes, what is required. No program is named here.
  Plain facts on the tests and commands that the laws make: they may be, and are short.
-/
import Derived.Test.YtnjlakengbhokaaDoorRulPur
import Derived.Test.YtnjlakengbhokaaDoorScrMemX
import Derived.Test.YtnjlakengbhokaaDoorWhoPureX
import Derived.Test.YtnjlakengbhokaaDoorScrMem
import Derived.Test.YtnjlakengbhokaaDoorWhoPure
namespace Go.Proofs.YtnjlakengbhokaaDoor
open Go.RowKit

/- P6.1. -/
theorem flagsG_all : ∀ (l : List (List UInt8)) (n : Nat), (∀ s ∈ l, flagP s ≠ 0) → flagsG n l = some (n ||| l.foldl (fun a s => a ||| flagP s) 0) := by
  intro l
  induction l with
  | nil => intro n _; show some n = some (n ||| 0); simp
  | cons s l ih =>
    intro n h
    have hs := h s (by simp)
    have hl : ∀ x ∈ l, flagP x ≠ 0 := fun x hx => h x (by simp [hx])
    unfold flagsG
    rw [if_neg hs, ih _ hl, List.foldl_cons, Nat.zero_or]
    have e : ∀ (l : List (List UInt8)) (k : Nat), l.foldl (fun a s => a ||| flagP s) k = k ||| l.foldl (fun a s => a ||| flagP s) 0 := by
      intro l
      induction l with
      | nil => intro k; simp
      | cons x l ih => intro k; rw [List.foldl_cons, List.foldl_cons, ih (k ||| flagP x), ih (0 ||| flagP x), Nat.zero_or, Nat.or_assoc]
    rw [e l (flagP s), Nat.or_assoc]
theorem flagsG_none : ∀ (l : List (List UInt8)) (n : Nat) (s : List UInt8), s ∈ l → flagP s = 0 → flagsG n l = none := by
  intro l
  induction l with
  | nil => intro n s h; cases h
  | cons x l ih =>
    intro n s h hs
    unfold flagsG
    by_cases hx : flagP x = 0
    · rw [if_pos hx]
    · rw [if_neg hx]
      rcases List.mem_cons.1 h with e | e
      · subst e; exact absurd hs hx
      · exact ih _ s e hs

/- P6.2. -/
/- P6.3, P6.4. -/
/- What the laws make. -/
def needsTP : Nat → Tst → Bool
  | 0, _ => false
  | n + 1, t => t.tests.any (needsTP n) || decide (t.kind = 8)
def needsP : Nat → Cmd → Bool
  | 0, _ => false
  | n + 1, c => decide (c.kind = 5) || decide (c.kind = 7) || decide (c.kind = 8) || decide (c.kind = 9) || (decide (c.kind = 2) && (needsTP n c.test || c.thn.any (needsP n) || c.els.any (needsP n)))
theorem firstP_any {A : Type} {f : A → Int} {p : A → Bool} {e : Int} (he : e ≠ 0) {l : List A} (h : ∀ x ∈ l, f x = if p x then e else 0) : firstP f l = if l.any p then e else 0 := by
  induction l with
  | nil => rfl
  | cons x l ih =>
    have hx := h x (by simp)
    have ih' := ih fun y hy => h y (by simp [hy])
    unfold firstP
    cases hp : p x with
    | true => rw [hp] at hx; simp only [if_true] at hx; rw [hx, if_neg he]; simp [hp]
    | false => rw [hp] at hx; simp only [Bool.false_eq_true, if_false] at hx; rw [if_pos hx, ih']; simp [hp]
theorem firstP_mem {A : Type} {f : A → Int} {l : List A} (h : firstP f l ≠ 0) : ∃ x ∈ l, f x = firstP f l := by
  induction l with
  | nil => exact absurd rfl h
  | cons x l ih =>
    unfold firstP at h ⊢
    by_cases hx : f x = 0
    · rw [if_pos hx] at h ⊢
      obtain ⟨y, hy, e⟩ := ih h
      exact ⟨y, by simp [hy], e⟩
    · rw [if_neg hx] at h ⊢
      exact ⟨x, by simp, rfl⟩
theorem firstP_append {A : Type} {f : A → Int} (l m : List A) : firstP f (l ++ m) = if firstP f l = 0 then firstP f m else firstP f l := by
  induction l with
  | nil => simp [firstP]
  | cons x l ih =>
    show (if f x = 0 then firstP f (l ++ m) else f x) = if (if f x = 0 then firstP f l else f x) = 0 then firstP f m else (if f x = 0 then firstP f l else f x)
    by_cases hx : f x = 0
    · rw [if_pos hx, if_pos hx, ih]
    · rw [if_neg hx, if_neg hx, if_neg hx]
theorem tstA_none : ∀ (n : Nat) (t : Tst), NiceT n t → tstA [] n t = if needsTP n t then 8 else 0 := by
  intro n
  induction n with
  | zero => intro t _; rfl
  | succ n ih =>
    intro t h
    obtain ⟨h1, h2, h3, h4⟩ := h
    unfold tstA needsTP
    have he : envP [] t = 8 := rfl
    by_cases hk : t.kind = 8
    · rw [if_pos ⟨hk, by rw [he]; simp⟩, he]
      simp [hk]
    · rw [if_neg (fun h => hk h.1), if_neg (by rw [h1, h2]; simp), firstP_any (by omega) fun u hu => ih u (h4 u hu)]
      simp [hk]
theorem cmdA_none : ∀ (n : Nat) (c : Cmd), NiceC n c → cmdA [] n c = if needsP n c then 8 else 0 := by
  intro n
  induction n with
  | zero => intro t _; rfl
  | succ n ih =>
    intro c h
    obtain ⟨k1, k2, k3, k4, k5, k6, k7⟩ := h
    unfold cmdA needsP
    by_cases c5 : c.kind = 5
    · rw [if_pos (by rw [needP, if_pos c5]; rfl)]; simp [c5]
    · by_cases c7 : c.kind = 7
      · rw [if_pos (by rw [needP, if_neg c5, if_pos c7]; rfl)]; simp [c7]
      · by_cases c8 : c.kind = 8 ∨ c.kind = 9
        · rw [if_pos (by rw [needP, if_neg c5, if_neg c7, if_pos c8]; rfl)]
          rcases c8 with e | e <;> simp [e]
        · rw [if_neg (by rw [needP, if_neg c5, if_neg c7, if_neg c8]; simp [hasP]), if_neg k1, if_neg c5, if_neg c8]
          have d8 : c.kind ≠ 8 := fun e => c8 (Or.inl e)
          have d9 : c.kind ≠ 9 := fun e => c8 (Or.inr e)
          by_cases c6 : c.kind = 6
          · rw [if_pos c6, k4 c6]; simp [c6]
          · rw [if_neg c6]
            by_cases c2 : c.kind = 2
            · rw [if_pos c2, tstA_none n _ k5, firstP_any (by omega) fun u hu => ih u (k6 u hu), firstP_any (by omega) fun u hu => ih u (k7 u hu)]
              simp only [c2, decide_true, Bool.true_and]
              cases needsTP n c.test <;> cases c.thn.any (needsP n) <;> cases c.els.any (needsP n) <;> rfl
            · rw [if_neg c2]; simp [c5, c7, d8, d9, c2]

/- The laws' own scripts. -/
def keepC : Cmd := ⟨3, [], noneT, [], []⟩
def oddW : List UInt8 := [118, 97, 114, 105, 97, 98, 108, 101, 115]
def oddC : Cmd := ⟨1, [oddW], noneT, [], []⟩
def fileC : Cmd := ⟨5, [[97]], noneT, [], []⟩
theorem checkM_tail {n : Nat} {c : Cmd} {l : List Cmd} (h : checkM n (c :: l) = 0) : checkM n l = 0 := by
  obtain ⟨h1, h2⟩ := checkM_ok h
  rw [checkM_of fun x hx => h1 x (by simp [hx]), if_neg]
  have : (cmdsT n (c :: l)).length = (cmdT n c).length + (cmdsT n l).length := by simp [cmdsT]
  omega
theorem fault_keep (n : Nat) : faultCmd n 0 keepC = 0 := by cases n <;> rfl
theorem fault_odd (n : Nat) : faultCmd n 0 oddC = 0 := by cases n <;> rfl
theorem fault_file (n : Nat) : faultCmd n 0 fileC = 0 := by cases n <;> rfl
theorem ahead_app {n : Nat} {c : Cmd} {r s : List Cmd} (h : ∀ x ∈ r, NiceC (n + 1) x) (hc : c.kind ≠ 1) : aheadP (r ++ c :: s) = 0 := by
  cases r with
  | nil => rw [List.nil_append]; unfold aheadP; rw [if_neg hc]
  | cons d r =>
    rw [List.cons_append]
    unfold aheadP
    rw [if_neg (h d (by simp)).1]
theorem rule_more {n : Nat} {r : List Cmd} (hc : checkM (n + 1) (reqC :: r) = 0) (hN : ∀ x ∈ r, NiceC (n + 1) x) : ruleM (n + 1) (reqC :: reqC :: r) = 0 ∨ ruleM (n + 1) (reqC :: reqC :: r) = 5 := by
  have h0 := checkM_or (n := n + 1) (l := reqC :: reqC :: r) fun x hx => by
    rcases List.mem_cons.1 hx with e | e
    · rw [e]; exact fault_req _
    · exact (checkM_ok hc).1 x e
  have ha : aheadP (reqC :: reqC :: r) = 2 := by show aheadP r + 1 + 1 = 2; rw [ahead_nice hN]
  have hr : reqsP (reqC :: reqC :: r) = reqT ++ reqT := by unfold reqsP; rw [ha]; rfl
  unfold ruleM
  rcases h0 with h0 | h0
  · left
    rw [if_neg (by rw [h0]; simp), hr, if_neg (by decide), ha]
    exact firstP_zero fun x hx => cmdA_all (by decide) (by decide) (by decide) (by decide) _ _ (hN x hx)
  · right; rw [if_pos (by rw [h0]; simp), h0]
theorem rule_needs {n : Nat} {r : List Cmd} (hc : checkM (n + 1) (reqC :: r) = 0) (hN : ∀ x ∈ r, NiceC (n + 1) x) : ruleM (n + 1) r = if r.any (needsP (n + 1)) then 8 else 0 := by
  have ha := ahead_nice hN
  unfold ruleM
  have hr : reqsP r = [] := by unfold reqsP; rw [ha]; rfl
  rw [if_neg (by rw [checkM_tail hc]; simp), hr, if_neg (by decide), ha]
  exact firstP_any (by omega) fun x hx => cmdA_none _ _ (hN x hx)
theorem rule_late {n : Nat} {r : List Cmd} (hc : checkM (n + 1) (reqC :: r) = 0) (hN : ∀ x ∈ r, NiceC (n + 1) x) : ruleM (n + 1) (reqC :: r ++ [keepC, reqC]) = 3 ∨ ruleM (n + 1) (reqC :: r ++ [keepC, reqC]) = 5 := by
  have h0 := checkM_or (n := n + 1) (l := reqC :: r ++ [keepC, reqC]) fun x hx => by
    rcases List.mem_append.1 hx with e | e
    · exact (checkM_ok hc).1 x e
    · rcases List.mem_cons.1 e with e | e
      · rw [e]; exact fault_keep _
      · rcases List.mem_cons.1 e with e | e
        · rw [e]; exact fault_req _
        · cases e
  have ha : aheadP (reqC :: r ++ [keepC, reqC]) = 1 := by show aheadP (r ++ keepC :: [reqC]) + 1 = 1; rw [ahead_app hN (by decide)]
  have hr : reqsP (reqC :: r ++ [keepC, reqC]) = reqT := by unfold reqsP; rw [ha]; rfl
  unfold ruleM
  rcases h0 with h0 | h0
  · left
    rw [if_neg (by rw [h0]; simp), hr, if_neg (by decide), ha]
    show firstP (cmdA reqT (n + 1)) (r ++ [keepC, reqC]) = 3
    rw [firstP_append, if_pos (firstP_zero fun x hx => cmdA_all (by decide) (by decide) (by decide) (by decide) _ _ (hN x hx))]
    rfl
  · right; rw [if_pos (by rw [h0]; simp), h0]
theorem rule_odd {n : Nat} {r : List Cmd} (hc : checkM (n + 1) (reqC :: r) = 0) (hN : ∀ x ∈ r, NiceC (n + 1) x) : ruleM (n + 1) (oddC :: reqC :: r) = 7 ∨ ruleM (n + 1) (oddC :: reqC :: r) = 5 := by
  have h0 := checkM_or (n := n + 1) (l := oddC :: reqC :: r) fun x hx => by
    rcases List.mem_cons.1 hx with e | e
    · rw [e]; exact fault_odd _
    · exact (checkM_ok hc).1 x e
  have ha : aheadP (oddC :: reqC :: r) = 2 := by show aheadP r + 1 + 1 = 2; rw [ahead_nice hN]
  have hr : reqsP (oddC :: reqC :: r) = oddW :: reqT := by unfold reqsP; rw [ha]; rfl
  unfold ruleM
  rcases h0 with h0 | h0
  · left; rw [if_neg (by rw [h0]; simp), hr, if_pos (by decide)]
  · right; rw [if_pos (by rw [h0]; simp), h0]
theorem rule_file (n : Nat) : ruleM (n + 1) [fileC] = 8 := by
  have h : checkM (n + 1) [fileC] = 0 := by
    rw [checkM_of fun x hx => by simp at hx; rw [hx]; exact fault_file _]
    rfl
  unfold ruleM
  rw [if_neg (by rw [h]; simp)]
  rfl
end Go.Proofs.YtnjlakengbhokaaDoor

namespace Go.Proofs.YtnjlakengbhokaaDoor
open Go.RowKit

end Go.Proofs.YtnjlakengbhokaaDoor
