/-
  Plain facts on scripts: tests and commands that may be, once shown, are read back. No program is named here.
-/
import Derived.Test.YtdmiidbncpgfpaaDoorScrBack
namespace Go.Proofs.YtdmiidbncpgfpaaDoor
open Go.RowKit

/-- So deep at the most. -/
def DeepT : Nat → Tst → Prop
  | 0, _ => False
  | n + 1, t => ∀ x ∈ t.tests, DeepT n x
def DeepC : Nat → Cmd → Prop
  | 0, _ => False
  | n + 1, c => DeepT n c.test ∧ (∀ x ∈ c.thn, DeepC n x) ∧ ∀ x ∈ c.els, DeepC n x
theorem DeepT.more : ∀ (n m : Nat) (t : Tst), n ≤ m → DeepT n t → DeepT m t := by
  intro n
  induction n with
  | zero => intro m t _ h; exact h.elim
  | succ n ih =>
    intro m t hm h
    cases m with
    | zero => omega
    | succ m => exact fun x hx => ih m x (by omega) (h x hx)
theorem DeepC.more : ∀ (n m : Nat) (t : Cmd), n ≤ m → DeepC n t → DeepC m t := by
  intro n
  induction n with
  | zero => intro m t _ h; exact h.elim
  | succ n ih =>
    intro m t hm h
    cases m with
    | zero => omega
    | succ m => exact ⟨DeepT.more _ _ _ (by omega) h.1, fun x hx => ih m x (by omega) (h.2.1 x hx), fun x hx => ih m x (by omega) (h.2.2 x hx)⟩
theorem firstP_all {A : Type} {f : A → Int} : ∀ {l : List A}, firstP f l = 0 → ∀ x ∈ l, f x = 0 := by
  intro l
  induction l with
  | nil => intro _ x hx; cases hx
  | cons y l ih =>
    intro h x hx
    unfold firstP at h
    by_cases hy : f y = 0
    · rw [if_pos hy] at h
      rcases List.mem_cons.1 hx with e | e
      · rw [e]; exact hy
      · exact ih h x e
    · rw [if_neg hy] at h; exact absurd h hy
theorem firstP_none {A : Type} {f : A → Int} : ∀ {l : List A}, (∀ x ∈ l, f x = 0) → firstP f l = 0 := by
  intro l
  induction l with
  | nil => intro _; rfl
  | cons y l ih =>
    intro h
    unfold firstP
    rw [if_pos (h y (by simp))]
    exact ih fun x hx => h x (by simp [hx])
theorem oneP_zero {k : Bool} {d : Nat} {f : Bool} (h : oneP k d f = 0) : k = true ∧ d ≤ 6 ∧ f = true := by
  unfold oneP at h
  cases k with
  | false => simp at h
  | true =>
    rw [if_neg (by simp)] at h
    by_cases hd : 6 < d
    · rw [if_pos hd] at h; cases h
    · rw [if_neg hd] at h
      cases f with
      | false => simp at h
      | true => exact ⟨rfl, by omega, rfl⟩
theorem oneP_is {k : Bool} {d : Nat} {f : Bool} (hk : k = true) (hd : d ≤ 6) (hf : f = true) : oneP k d f = 0 := by
  subst hk hf; unfold oneP; rw [if_neg (by simp), if_neg (by omega), if_neg (by simp)]
theorem noTst_eq {t : Tst} (h : noTst t = true) : t = noneT := by
  obtain ⟨a, b, c, d, e, f, g, i⟩ := t
  simp [noTst] at h
  obtain ⟨⟨⟨⟨⟨⟨⟨rfl, rfl⟩, rfl⟩, rfl⟩, rfl⟩, rfl⟩, rfl⟩, rfl⟩ := h
  rfl
theorem kind_of_num {n : Int} (h : (decide (1 ≤ n) && decide (n ≤ 10)) = true) : ∃ k : Nat, n = (k : Int) ∧ 1 ≤ k ∧ k ≤ 10 := by
  simp at h
  exact ⟨n.toNat, by omega, by omega, by omega⟩
theorem faultTst_zero {n d : Nat} {t : Tst} (h : faultTst (n + 1) d t = 0) : isNumP 1 t.kind = true ∧ d ≤ 6 ∧ fitsT t = true ∧ ∀ x ∈ t.tests, faultTst n (d + 1) x = 0 := by
  unfold faultTst at h
  by_cases h1 : oneP (isNumP 1 t.kind) d (fitsT t) = 0
  · rw [if_pos h1] at h
    obtain ⟨a, b, c⟩ := oneP_zero h1
    exact ⟨a, b, c, firstP_all h⟩
  · rw [if_neg h1] at h; exact absurd h h1
theorem num_cases {k : Nat} (h1 : 1 ≤ k) (h2 : k ≤ 10) : k = 1 ∨ k = 2 ∨ k = 3 ∨ k = 4 ∨ k = 5 ∨ k = 6 ∨ k = 7 ∨ k = 8 ∨ k = 9 ∨ k = 10 := by omega
theorem word_ne (k n : Nat) (hk : k < 2) (h1 : 1 ≤ n) (h2 : n ≤ 10) : wordOf k n ≠ [] := by
  match k, hk with
  | 0, _ | 1, _ =>
    match n, h1, h2 with
    | 1, _, _ | 2, _, _ | 3, _, _ | 4, _, _ | 5, _, _ | 6, _, _ | 7, _, _ | 8, _, _ | 9, _, _ | 10, _, _ => decide
theorem word_ne' (k n : Nat) (hk : 2 ≤ k ∧ k < 4) (h1 : 1 ≤ n) (h2 : n ≤ 3) : wordOf k n ≠ [] := by
  match k, hk with
  | 2, _ | 3, _ =>
    match n, h1, h2 with
    | 1, _, _ | 2, _, _ | 3, _, _ => decide
theorem sep_len {A : Type} (g : A → List Tok) : ∀ (l : List A) (x : A), x ∈ l → (g x).length ≤ (sepT g l).length := by
  intro l x hx
  cases l with
  | nil => cases hx
  | cons y l =>
    show _ ≤ (g y ++ l.flatMap fun y => markT 44 :: g y).length
    rw [List.length_append]
    rcases List.mem_cons.1 hx with rfl | e
    · omega
    · have : (g x).length ≤ (l.flatMap fun y => markT 44 :: g y).length := by
        clear hx
        induction l with
        | nil => cases e
        | cons z l ih =>
          simp only [List.flatMap_cons, List.length_append, List.length_cons]
          rcases List.mem_cons.1 e with rfl | e
          · omega
          · have := ih e; omega
      omega
theorem tags_m {b : Bool} {t : Tok} {q : List Tok} {p : Nat} (hk : t.kind = 2) (h : numberP 2 t.text ≠ 0) : tagsF b (t :: q) 0 p = tagsF b q (numberP 2 t.text) p := by
  rw [tagsF]; simp [hk, h]
theorem tags_p {t : Tok} {q : List Tok} {m : Nat} (hk : t.kind = 2) (h2 : numberP 2 t.text = 0) (h3 : numberP 3 t.text ≠ 0) : tagsF true (t :: q) m 0 = tagsF true q m (numberP 3 t.text) := by
  rw [tagsF]; simp [hk, h2, h3]
theorem tags_two (m p : Nat) (hm : 1 ≤ m ∧ m ≤ 3) (hp : 1 ≤ p ∧ p ≤ 3) (r : List Tok) (hr : ∀ t q, r = t :: q → t.kind ≠ 2) : tagsF true (tagT (wordOf 3 p) :: tagT (wordOf 2 m) :: r) 0 0 = .ok ((m, p), r) := by
  have hend : tagsF true r m p = .ok ((m, p), r) := by
    cases r with
    | nil => unfold tagsF; rw [if_neg (by omega), if_neg (by omega)]
    | cons t q => unfold tagsF; rw [if_neg (hr t q rfl), if_neg (by omega), if_neg (by omega)]
  have h2 : numberP 2 (wordOf 3 p) = 0 := by
    obtain ⟨h1, h2⟩ := hp
    match p, h1, h2 with
    | 1, _, _ | 2, _, _ | 3, _, _ => rfl
  have h3 : numberP 3 (wordOf 3 p) = p := number_back 3 p (by omega) hp.1 (by omega) (word_ne' 3 p (by omega) hp.1 hp.2)
  have h4 : numberP 2 (wordOf 2 m) = m := number_back 2 m (by omega) hm.1 (by omega) (word_ne' 2 m (by omega) hm.1 hm.2)
  rw [tags_p rfl h2 (by rw [show (tagT (wordOf 3 p)).text = wordOf 3 p from rfl, h3]; omega), tags_m rfl (by rw [show (tagT (wordOf 2 m)).text = wordOf 2 m from rfl, h4]; omega)]
  rw [show (tagT (wordOf 2 m)).text = wordOf 2 m from rfl, show (tagT (wordOf 3 p)).text = wordOf 3 p from rfl, h3, h4, hend]
theorem tags_one (m : Nat) (hm : 1 ≤ m ∧ m ≤ 3) (r : List Tok) (hr : ∀ t q, r = t :: q → t.kind ≠ 2) : tagsF false (tagT (wordOf 2 m) :: r) 0 0 = .ok ((m, 0), r) := by
  have hend : tagsF false r m 0 = .ok ((m, 0), r) := by
    cases r with
    | nil => unfold tagsF; rw [if_neg (by omega)]; rfl
    | cons t q => unfold tagsF; rw [if_neg (hr t q rfl), if_neg (by omega)]; rfl
  have h4 : numberP 2 (wordOf 2 m) = m := number_back 2 m (by omega) hm.1 (by omega) (word_ne' 2 m (by omega) hm.1 hm.2)
  rw [tags_m rfl (by rw [show (tagT (wordOf 2 m)).text = wordOf 2 m from rfl, h4]; omega)]
  rw [show (tagT (wordOf 2 m)).text = wordOf 2 m from rfl, h4, hend]
theorem list_first (l : List (List UInt8)) (r : List Tok) (h : 0 < l.length) : ∀ t q, listT l ++ r = t :: q → t.kind ≠ 2 := by
  intro t q e
  match l, h with
  | [x], _ => cases e; exact fun h => by cases h
  | x :: y :: ys, _ => cases e; exact fun h => by cases h

set_option maxRecDepth 4000 in
theorem test_back : ∀ (m n d : Nat) (t : Tst) (rest : List Tok), DeepT m t → faultTst m d t = 0 → (testT m t).length ≤ n → testP n d (testT m t ++ rest) = .ok (t, rest) := by
  intro m
  induction m with
  | zero => intro n d t rest h; exact h.elim
  | succ m ih =>
    intro n d t rest hdeep hf hn
    obtain ⟨hnum, hd, hfit, hin⟩ := faultTst_zero hf
    rw [isNum_tst] at hnum
    obtain ⟨k, hk, h1, h2⟩ := kind_of_num hnum
    have hlen : 1 ≤ (testT (m + 1) t).length := by unfold testT; simp
    obtain ⟨n, rfl⟩ : ∃ n', n = n' + 1 := ⟨n - 1, by omega⟩
    have hkb := fun r => kind_back 1 d k (by omega) hd h1 h2 (word_ne 1 k (by omega) h1 h2) r
    unfold testP
    unfold testT at hn ⊢
    rw [hk] at hn ⊢
    simp only [Int.toNat_natCast] at hn ⊢
    rw [List.cons_append, hkb]
    simp only [thenR]
    unfold fitsT at hfit
    rw [hk] at hfit
    have hall : ∀ x ∈ t.tests, ∀ (k : Nat), (testT m x).length ≤ k → ∀ r, testP k (d + 1) (testT m x ++ r) = .ok (x, r) := fun x hx k hk r => ih k (d + 1) x r (hdeep x hx) (hin x hx) hk
    rcases num_cases h1 h2 with rfl | rfl | rfl | rfl | rfl | rfl | rfl | rfl | rfl | rfl
    · simp at hfit hn ⊢
      have := noTst_eq hfit
      cases t; simp [noneT] at this hk ⊢; simp [this, hk]
    · simp at hfit hn ⊢
      have := noTst_eq hfit
      cases t; simp [noneT] at this hk ⊢; simp [this, hk]
    · simp at hfit hn ⊢
      obtain ⟨ha, hb⟩ := hfit
      obtain ⟨x, hx⟩ : ∃ x, t.tests = [x] := List.length_eq_one_iff.1 ha
      rw [hx] at hn ⊢
      simp at hn ⊢
      rw [hall x (by rw [hx]; simp) n (by omega) rest]
      have := noTst_eq hb
      cases t; simp [noneT] at this hk hx ⊢; simp [this, hk, hx]
    · simp at hfit hn ⊢
      obtain ⟨ha, hb⟩ := hfit
      obtain ⟨x, xs, hx⟩ : ∃ x xs, t.tests = x :: xs := by
        cases h : t.tests with
        | nil => rw [h] at ha; simp at ha
        | cons x xs => exact ⟨x, xs, rfl⟩
      have hl : ∀ y ∈ t.tests, (testT m y).length ≤ n := fun y hy => by have := sep_len (testT m) t.tests y hy; omega
      unfold testsR
      rw [take_mark]
      simp only [thenR]
      rw [hx]
      have e : sepT (testT m) (x :: xs) ++ markT 41 :: rest = testT m x ++ ((xs.flatMap fun y => markT 44 :: testT m y) ++ markT 41 :: rest) := by simp [sepT]
      rw [e, hall x (by rw [hx]; simp) n (hl x (by rw [hx]; simp))]
      simp only
      rw [loop_back (testP n (d + 1)) (testT m) (markT 41 :: rest) (skip_other (by decide) rest) xs [x] _ (flat_len _ _ _) fun z hz r => hall z (by rw [hx]; simp [hz]) n (hl z (by rw [hx]; simp [hz])) r]
      simp only
      rw [take_mark]
      have := noTst_eq hb
      cases t; simp [noneT] at this hk hx ⊢; simp [this, hk, hx]
    · simp at hfit hn ⊢
      obtain ⟨ha, hb⟩ := hfit
      obtain ⟨x, xs, hx⟩ : ∃ x xs, t.tests = x :: xs := by
        cases h : t.tests with
        | nil => rw [h] at ha; simp at ha
        | cons x xs => exact ⟨x, xs, rfl⟩
      have hl : ∀ y ∈ t.tests, (testT m y).length ≤ n := fun y hy => by have := sep_len (testT m) t.tests y hy; omega
      unfold testsR
      rw [take_mark]
      simp only [thenR]
      rw [hx]
      have e : sepT (testT m) (x :: xs) ++ markT 41 :: rest = testT m x ++ ((xs.flatMap fun y => markT 44 :: testT m y) ++ markT 41 :: rest) := by simp [sepT]
      rw [e, hall x (by rw [hx]; simp) n (hl x (by rw [hx]; simp))]
      simp only
      rw [loop_back (testP n (d + 1)) (testT m) (markT 41 :: rest) (skip_other (by decide) rest) xs [x] _ (flat_len _ _ _) fun z hz r => hall z (by rw [hx]; simp [hz]) n (hl z (by rw [hx]; simp [hz])) r]
      simp only
      rw [take_mark]
      have := noTst_eq hb
      cases t; simp [noneT] at this hk hx ⊢; simp [this, hk, hx]
    · simp [cmpB] at hfit hn ⊢
      obtain ⟨⟨⟨ha, hb⟩, hc⟩, hd'⟩ := hfit
      rw [isNum_mat] at ha
      simp at ha
      obtain ⟨mm, hmm⟩ : ∃ mm : Nat, t.mat = (mm : Int) := ⟨t.mat.toNat, by omega⟩
      rw [hmm] at ha ⊢
      simp only [Int.toNat_natCast]
      rw [tags_one mm (by omega) _ (list_first _ _ hb)]
      simp only
      rw [list_back _ _ hb]
      simp only
      rw [list_back _ _ hc]
      have := noTst_eq hd'
      cases t; simp [noneT] at this hk hmm ⊢; simp [this, hk, hmm]
    · simp [cmpB] at hfit hn ⊢
      obtain ⟨⟨⟨⟨ha, hb⟩, hc⟩, hp⟩, hd'⟩ := hfit
      rw [isNum_mat] at ha
      rw [isNum_part] at hp
      simp at ha hp
      obtain ⟨mm, hmm⟩ : ∃ mm : Nat, t.mat = (mm : Int) := ⟨t.mat.toNat, by omega⟩
      obtain ⟨pp, hpp⟩ : ∃ pp : Nat, t.part = (pp : Int) := ⟨t.part.toNat, by omega⟩
      rw [hmm] at ha ⊢
      rw [hpp] at hp ⊢
      simp only [Int.toNat_natCast]
      rw [tags_two mm pp (by omega) (by omega) _ (list_first _ _ hb)]
      simp only
      rw [list_back _ _ hb]
      simp only
      rw [list_back _ _ hc]
      have := noTst_eq hd'
      cases t; simp [noneT] at this hk hmm hpp ⊢; simp [this, hk, hmm, hpp]
    · simp [cmpB] at hfit hn ⊢
      obtain ⟨⟨⟨⟨ha, hb⟩, hc⟩, hp⟩, hd'⟩ := hfit
      rw [isNum_mat] at ha
      rw [isNum_part] at hp
      simp at ha hp
      obtain ⟨mm, hmm⟩ : ∃ mm : Nat, t.mat = (mm : Int) := ⟨t.mat.toNat, by omega⟩
      obtain ⟨pp, hpp⟩ : ∃ pp : Nat, t.part = (pp : Int) := ⟨t.part.toNat, by omega⟩
      rw [hmm] at ha ⊢
      rw [hpp] at hp ⊢
      simp only [Int.toNat_natCast]
      rw [tags_two mm pp (by omega) (by omega) _ (list_first _ _ hb)]
      simp only
      rw [list_back _ _ hb]
      simp only
      rw [list_back _ _ hc]
      have := noTst_eq hd'
      cases t; simp [noneT] at this hk hmm hpp ⊢; simp [this, hk, hmm, hpp]
    · simp at hfit hn ⊢
      obtain ⟨ha, hb⟩ := hfit
      rw [list_back _ _ ha]
      have := noTst_eq hb
      cases t; simp [noneT] at this hk ⊢; simp [this, hk]
    · simp at hfit hn ⊢
      obtain ⟨ha, hb⟩ := hfit
      have := noTst_eq hb
      cases hov : t.over with
      | true =>
        have e : boundR (tagT overW :: ⟨3, [], t.limit⟩ :: rest) = .ok ((true, t.limit), rest) := by unfold boundR skipP tagT takeKP thenR; simp
        simp only [if_true]
        rw [e]
        cases t; simp [noneT] at this hk hov ⊢; simp [this, hk, hov]
      | false =>
        have e : boundR (tagT underW :: ⟨3, [], t.limit⟩ :: rest) = .ok ((false, t.limit), rest) := by
          unfold boundR
          have a : skipP 2 overW (tagT underW :: ⟨3, [], t.limit⟩ :: rest) = none := by unfold skipP tagT; simp [overW, underW]
          rw [a]
          unfold takeTP skipP tagT takeKP thenR
          simp
        simp
        rw [e]
        cases t; simp [noneT] at this hk hov ⊢; simp [this, hk, hov]
end Go.Proofs.YtdmiidbncpgfpaaDoor
