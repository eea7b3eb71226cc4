/-
  Plain facts on scripts: what may be, once shown, is read back. No program is named here.
-/
import Derived.Test.YtdmiidbncpgfpaaDoorScrRead
namespace Go.Proofs.YtdmiidbncpgfpaaDoor
open Go.RowKit

theorem skip_mark (c : UInt8) (r : List Tok) : skipP 5 [c] (markT c :: r) = some r := by unfold skipP markT; simp
theorem skip_other {c e : UInt8} (h : e ≠ c) (r : List Tok) : skipP 5 [c] (markT e :: r) = none := by unfold skipP markT; simp [h]
theorem skip_str (c : UInt8) (x : List UInt8) (r : List Tok) : skipP 5 [c] (strT x :: r) = none := by unfold skipP strT; simp
theorem text_str (x : List UInt8) (r : List Tok) : textR (strT x :: r) = .ok (x, r) := by unfold textR takeKP strT thenR; simp
theorem take_mark (c : UInt8) (r : List Tok) : takeTP 5 [c] (markT c :: r) = .ok ((), r) := by unfold takeTP; rw [skip_mark]
theorem loop_back {A : Type} (f : List Tok → Rdg A) (g : A → List Tok) (tail : List Tok) (ht : skipP 5 [44] tail = none) : ∀ (ys acc : List A) (m : Nat), ys.length ≤ m → (∀ y ∈ ys, ∀ rest, f (g y ++ rest) = .ok (y, rest)) → loopF f m acc ((ys.flatMap fun y => markT 44 :: g y) ++ tail) = .ok (acc ++ ys, tail) := by
  intro ys
  induction ys with
  | nil =>
    intro acc m _ _
    simp only [List.flatMap_nil, List.nil_append, List.append_nil]
    cases m with
    | zero => rfl
    | succ m => unfold loopF; rw [ht]
  | cons y ys ih =>
    intro acc m hm hf
    cases m with
    | zero => simp at hm
    | succ m =>
      have e : ((y :: ys).flatMap fun y => markT 44 :: g y) ++ tail = markT 44 :: (g y ++ ((ys.flatMap fun y => markT 44 :: g y) ++ tail)) := by simp [List.append_assoc]
      rw [e, loopF, skip_mark]
      simp only
      rw [hf y (by simp)]
      show loopF f m (acc ++ [y]) _ = _
      rw [ih (acc ++ [y]) m (by simpa using hm) fun z hz => hf z (by simp [hz])]
      simp
theorem flat_len {A : Type} (g : A → List Tok) (tail : List Tok) (ys : List A) : ys.length ≤ ((ys.flatMap fun y => markT 44 :: g y) ++ tail).length := by
  induction ys with
  | nil => simp
  | cons y ys ih => simp only [List.flatMap_cons, List.length_append, List.length_cons] at ih ⊢; omega
theorem list_back (l : List (List UInt8)) (r : List Tok) (h : 0 < l.length) : listR (listT l ++ r) = .ok (l, r) := by
  match l, h with
  | [x], _ =>
    show listR (strT x :: r) = _
    unfold listR
    rw [skip_str]
    simp only
    rw [text_str]
    rfl
  | x :: y :: ys, _ =>
    have e : listT (x :: y :: ys) ++ r = markT 91 :: (strT x :: (((y :: ys).flatMap fun z => markT 44 :: [strT z]) ++ (markT 93 :: r))) := by
      show markT 91 :: (sepT (fun x => [strT x]) (x :: y :: ys) ++ [markT 93]) ++ r = _
      simp [sepT, List.append_assoc]
    rw [e]
    unfold listR
    rw [skip_mark]
    simp only
    rw [text_str]
    show thenR (loopF textR _ [x] _) _ = _
    rw [loop_back textR (fun z => [strT z]) (markT 93 :: r) (skip_other (by decide) r) (y :: ys) [x] _ (flat_len _ _ _) fun z _ rest => text_str z rest]
    show thenR (.ok _) _ = _
    unfold thenR
    simp only
    rw [take_mark]
    rfl
theorem number_back (k n : Nat) (hk : k < 4) (h1 : 1 ≤ n) (h2 : n ≤ 10) (hw : wordOf k n ≠ []) : numberP k (wordOf k n) = n := by
  match k, hk with
  | 0, _ | 1, _ | 2, _ | 3, _ =>
    match n, h1, h2, hw with
    | 1, _, _, hw | 2, _, _, hw | 3, _, _, hw | 4, _, _, hw | 5, _, _, hw | 6, _, _, hw | 7, _, _, hw | 8, _, _, hw | 9, _, _, hw | 10, _, _, hw => first | rfl | exact absurd rfl hw
theorem kind_back (k d n : Nat) (hk : k < 4) (hd : d ≤ 6) (h1 : 1 ≤ n) (h2 : n ≤ 10) (hw : wordOf k n ≠ []) (r : List Tok) : kindP k d (wordT (wordOf k n) :: r) = .ok (n, r) := by
  unfold kindP
  rw [if_neg (by omega)]
  simp only
  rw [show (wordT (wordOf k n)).text = wordOf k n from rfl, number_back k n hk h1 h2 hw, if_pos ⟨rfl, by omega⟩]

/-- So deep at the most. -/
def DeepT : Nat → Tst → Prop
  | 0, _ => False
  | n + 1, t => ∀ x ∈ t.tests, DeepT n x
def DeepC : Nat → Cmd → Prop
  | 0, _ => False
  | n + 1, c => DeepT n c.test ∧ (∀ x ∈ c.thn, DeepC n x) ∧ ∀ x ∈ c.els, DeepC n x
theorem DeepT.more : ∀ (n m : Nat) (t : Tst), n ≤ m → DeepT n t → DeepT m t := by
  intro n
  induction n with
  | zero => intro m t _ h; exact h.elim
  | succ n ih =>
    intro m t hm h
    cases m with
    | zero => omega
    | succ m => exact fun x hx => ih m x (by omega) (h x hx)
theorem DeepC.more : ∀ (n m : Nat) (t : Cmd), n ≤ m → DeepC n t → DeepC m t := by
  intro n
  induction n with
  | zero => intro m t _ h; exact h.elim
  | succ n ih =>
    intro m t hm h
    cases m with
    | zero => omega
    | succ m => exact ⟨DeepT.more _ _ _ (by omega) h.1, fun x hx => ih m x (by omega) (h.2.1 x hx), fun x hx => ih m x (by omega) (h.2.2 x hx)⟩
theorem firstP_all {A : Type} {f : A → Int} : ∀ {l : List A}, firstP f l = 0 → ∀ x ∈ l, f x = 0 := by
  intro l
  induction l with
  | nil => intro _ x hx; cases hx
  | cons y l ih =>
    intro h x hx
    unfold firstP at h
    by_cases hy : f y = 0
    · rw [if_pos hy] at h
      rcases List.mem_cons.1 hx with e | e
      · rw [e]; exact hy
      · exact ih h x e
    · rw [if_neg hy] at h; exact absurd h hy
theorem firstP_none {A : Type} {f : A → Int} : ∀ {l : List A}, (∀ x ∈ l, f x = 0) → firstP f l = 0 := by
  intro l
  induction l with
  | nil => intro _; rfl
  | cons y l ih =>
    intro h
    unfold firstP
    rw [if_pos (h y (by simp))]
    exact ih fun x hx => h x (by simp [hx])
theorem oneP_zero {k : Bool} {d : Nat} {f : Bool} (h : oneP k d f = 0) : k = true ∧ d ≤ 6 ∧ f = true := by
  unfold oneP at h
  cases k with
  | false => simp at h
  | true =>
    rw [if_neg (by simp)] at h
    by_cases hd : 6 < d
    · rw [if_pos hd] at h; cases h
    · rw [if_neg hd] at h
      cases f with
      | false => simp at h
      | true => exact ⟨rfl, by omega, rfl⟩
theorem oneP_is {k : Bool} {d : Nat} {f : Bool} (hk : k = true) (hd : d ≤ 6) (hf : f = true) : oneP k d f = 0 := by
  subst hk hf; unfold oneP; rw [if_neg (by simp), if_neg (by omega), if_neg (by simp)]
theorem noTst_eq {t : Tst} (h : noTst t = true) : t = noneT := by
  obtain ⟨a, b, c, d, e, f, g, i⟩ := t
  simp [noTst] at h
  obtain ⟨⟨⟨⟨⟨⟨⟨rfl, rfl⟩, rfl⟩, rfl⟩, rfl⟩, rfl⟩, rfl⟩, rfl⟩ := h
  rfl
theorem kind_of_num {n : Int} (h : (decide (1 ≤ n) && decide (n ≤ 10)) = true) : ∃ k : Nat, n = (k : Int) ∧ 1 ≤ k ∧ k ≤ 10 := by
  simp at h
  exact ⟨n.toNat, by omega, by omega, by omega⟩
theorem faultTst_zero {n d : Nat} {t : Tst} (h : faultTst (n + 1) d t = 0) : isNumP 1 t.kind = true ∧ d ≤ 6 ∧ fitsT t = true ∧ ∀ x ∈ t.tests, faultTst n (d + 1) x = 0 := by
  unfold faultTst at h
  by_cases h1 : oneP (isNumP 1 t.kind) d (fitsT t) = 0
  · rw [if_pos h1] at h
    obtain ⟨a, b, c⟩ := oneP_zero h1
    exact ⟨a, b, c, firstP_all h⟩
  · rw [if_neg h1] at h; exact absurd h h1
theorem num_cases {k : Nat} (h1 : 1 ≤ k) (h2 : k ≤ 10) : k = 1 ∨ k = 2 ∨ k = 3 ∨ k = 4 ∨ k = 5 ∨ k = 6 ∨ k = 7 ∨ k = 8 ∨ k = 9 ∨ k = 10 := by omega
theorem word_ne (k n : Nat) (hk : k < 2) (h1 : 1 ≤ n) (h2 : n ≤ 10) : wordOf k n ≠ [] := by
  match k, hk with
  | 0, _ | 1, _ =>
    match n, h1, h2 with
    | 1, _, _ | 2, _, _ | 3, _, _ | 4, _, _ | 5, _, _ | 6, _, _ | 7, _, _ | 8, _, _ | 9, _, _ | 10, _, _ => decide
theorem word_ne' (k n : Nat) (hk : 2 ≤ k ∧ k < 4) (h1 : 1 ≤ n) (h2 : n ≤ 3) : wordOf k n ≠ [] := by
  match k, hk with
  | 2, _ | 3, _ =>
    match n, h1, h2 with
    | 1, _, _ | 2, _, _ | 3, _, _ => decide
theorem sep_len {A : Type} (g : A → List Tok) : ∀ (l : List A) (x : A), x ∈ l → (g x).length ≤ (sepT g l).length := by
  intro l x hx
  cases l with
  | nil => cases hx
  | cons y l =>
    show _ ≤ (g y ++ l.flatMap fun y => markT 44 :: g y).length
    rw [List.length_append]
    rcases List.mem_cons.1 hx with rfl | e
    · omega
    · have : (g x).length ≤ (l.flatMap fun y => markT 44 :: g y).length := by
        clear hx
        induction l with
        | nil => cases e
        | cons z l ih =>
          simp only [List.flatMap_cons, List.length_append, List.length_cons]
          rcases List.mem_cons.1 e with rfl | e
          · omega
          · have := ih e; omega
      omega
theorem tags_m {b : Bool} {t : Tok} {q : List Tok} {p : Nat} (hk : t.kind = 2) (h : numberP 2 t.text ≠ 0) : tagsF b (t :: q) 0 p = tagsF b q (numberP 2 t.text) p := by
  rw [tagsF]; simp [hk, h]
theorem tags_p {t : Tok} {q : List Tok} {m : Nat} (hk : t.kind = 2) (h2 : numberP 2 t.text = 0) (h3 : numberP 3 t.text ≠ 0) : tagsF true (t :: q) m 0 = tagsF true q m (numberP 3 t.text) := by
  rw [tagsF]; simp [hk, h2, h3]
theorem tags_two (m p : Nat) (hm : 1 ≤ m ∧ m ≤ 3) (hp : 1 ≤ p ∧ p ≤ 3) (r : List Tok) (hr : ∀ t q, r = t :: q → t.kind ≠ 2) : tagsF true (tagT (wordOf 3 p) :: tagT (wordOf 2 m) :: r) 0 0 = .ok ((m, p), r) := by
  have hend : tagsF true r m p = .ok ((m, p), r) := by
    cases r with
    | nil => unfold tagsF; rw [if_neg (by omega), if_neg (by omega)]
    | cons t q => unfold tagsF; rw [if_neg (hr t q rfl), if_neg (by omega), if_neg (by omega)]
  have h2 : numberP 2 (wordOf 3 p) = 0 := by
    obtain ⟨h1, h2⟩ := hp
    match p, h1, h2 with
    | 1, _, _ | 2, _, _ | 3, _, _ => rfl
  have h3 : numberP 3 (wordOf 3 p) = p := number_back 3 p (by omega) hp.1 (by omega) (word_ne' 3 p (by omega) hp.1 hp.2)
  have h4 : numberP 2 (wordOf 2 m) = m := number_back 2 m (by omega) hm.1 (by omega) (word_ne' 2 m (by omega) hm.1 hm.2)
  rw [tags_p rfl h2 (by rw [show (tagT (wordOf 3 p)).text = wordOf 3 p from rfl, h3]; omega), tags_m rfl (by rw [show (tagT (wordOf 2 m)).text = wordOf 2 m from rfl, h4]; omega)]
  rw [show (tagT (wordOf 2 m)).text = wordOf 2 m from rfl, show (tagT (wordOf 3 p)).text = wordOf 3 p from rfl, h3, h4, hend]
theorem tags_one (m : Nat) (hm : 1 ≤ m ∧ m ≤ 3) (r : List Tok) (hr : ∀ t q, r = t :: q → t.kind ≠ 2) : tagsF false (tagT (wordOf 2 m) :: r) 0 0 = .ok ((m, 0), r) := by
  have hend : tagsF false r m 0 = .ok ((m, 0), r) := by
    cases r with
    | nil => unfold tagsF; rw [if_neg (by omega)]; rfl
    | cons t q => unfold tagsF; rw [if_neg (hr t q rfl), if_neg (by omega)]; rfl
  have h4 : numberP 2 (wordOf 2 m) = m := number_back 2 m (by omega) hm.1 (by omega) (word_ne' 2 m (by omega) hm.1 hm.2)
  rw [tags_m rfl (by rw [show (tagT (wordOf 2 m)).text = wordOf 2 m from rfl, h4]; omega)]
  rw [show (tagT (wordOf 2 m)).text = wordOf 2 m from rfl, h4, hend]
theorem list_first (l : List (List UInt8)) (r : List Tok) (h : 0 < l.length) : ∀ t q, listT l ++ r = t :: q → t.kind ≠ 2 := by
  intro t q e
  match l, h with
  | [x], _ => cases e; exact fun h => by cases h
  | x :: y :: ys, _ => cases e; exact fun h => by cases h

set_option maxRecDepth 4000 in
theorem test_back : ∀ (m n d : Nat) (t : Tst) (rest : List Tok), DeepT m t → faultTst m d t = 0 → (testT m t).length ≤ n → testP n d (testT m t ++ rest) = .ok (t, rest) := by
  intro m
  induction m with
  | zero => intro n d t rest h; exact h.elim
  | succ m ih =>
    intro n d t rest hdeep hf hn
    obtain ⟨hnum, hd, hfit, hin⟩ := faultTst_zero hf
    rw [isNum_tst] at hnum
    obtain ⟨k, hk, h1, h2⟩ := kind_of_num hnum
    have hlen : 1 ≤ (testT (m + 1) t).length := by unfold testT; simp
    obtain ⟨n, rfl⟩ : ∃ n', n = n' + 1 := ⟨n - 1, by omega⟩
    have hkb := fun r => kind_back 1 d k (by omega) hd h1 h2 (word_ne 1 k (by omega) h1 h2) r
    unfold testP
    unfold testT at hn ⊢
    rw [hk] at hn ⊢
    simp only [Int.toNat_natCast] at hn ⊢
    rw [List.cons_append, hkb]
    simp only [thenR]
    unfold fitsT at hfit
    rw [hk] at hfit
    have hall : ∀ x ∈ t.tests, ∀ (k : Nat), (testT m x).length ≤ k → ∀ r, testP k (d + 1) (testT m x ++ r) = .ok (x, r) := fun x hx k hk r => ih k (d + 1) x r (hdeep x hx) (hin x hx) hk
    rcases num_cases h1 h2 with rfl | rfl | rfl | rfl | rfl | rfl | rfl | rfl | rfl | rfl
    · simp at hfit hn ⊢
      have := noTst_eq hfit
      cases t; simp [noneT] at this hk ⊢; simp [this, hk]
    · simp at hfit hn ⊢
      have := noTst_eq hfit
      cases t; simp [noneT] at this hk ⊢; simp [this, hk]
    · simp at hfit hn ⊢
      obtain ⟨ha, hb⟩ := hfit
      obtain ⟨x, hx⟩ : ∃ x, t.tests = [x] := List.length_eq_one_iff.1 ha
      rw [hx] at hn ⊢
      simp at hn ⊢
      rw [hall x (by rw [hx]; simp) n (by omega) rest]
      have := noTst_eq hb
      cases t; simp [noneT] at this hk hx ⊢; simp [this, hk, hx]
    · simp at hfit hn ⊢
      obtain ⟨ha, hb⟩ := hfit
      obtain ⟨x, xs, hx⟩ : ∃ x xs, t.tests = x :: xs := by
        cases h : t.tests with
        | nil => rw [h] at ha; simp at ha
        | cons x xs => exact ⟨x, xs, rfl⟩
      have hl : ∀ y ∈ t.tests, (testT m y).length ≤ n := fun y hy => by have := sep_len (testT m) t.tests y hy; omega
      unfold testsR
      rw [take_mark]
      simp only [thenR]
      rw [hx]
      have e : sepT (testT m) (x :: xs) ++ markT 41 :: rest = testT m x ++ ((xs.flatMap fun y => markT 44 :: testT m y) ++ markT 41 :: rest) := by simp [sepT]
      rw [e, hall x (by rw [hx]; simp) n (hl x (by rw [hx]; simp))]
      simp only
      rw [loop_back (testP n (d + 1)) (testT m) (markT 41 :: rest) (skip_other (by decide) rest) xs [x] _ (flat_len _ _ _) fun z hz r => hall z (by rw [hx]; simp [hz]) n (hl z (by rw [hx]; simp [hz])) r]
      simp only
      rw [take_mark]
      have := noTst_eq hb
      cases t; simp [noneT] at this hk hx ⊢; simp [this, hk, hx]
    · simp at hfit hn ⊢
      obtain ⟨ha, hb⟩ := hfit
      obtain ⟨x, xs, hx⟩ : ∃ x xs, t.tests = x :: xs := by
        cases h : t.tests with
        | nil => rw [h] at ha; simp at ha
        | cons x xs => exact ⟨x, xs, rfl⟩
      have hl : ∀ y ∈ t.tests, (testT m y).length ≤ n := fun y hy => by have := sep_len (testT m) t.tests y hy; omega
      unfold testsR
      rw [take_mark]
      simp only [thenR]
      rw [hx]
      have e : sepT (testT m) (x :: xs) ++ markT 41 :: rest = testT m x ++ ((xs.flatMap fun y => markT 44 :: testT m y) ++ markT 41 :: rest) := by simp [sepT]
      rw [e, hall x (by rw [hx]; simp) n (hl x (by rw [hx]; simp))]
      simp only
      rw [loop_back (testP n (d + 1)) (testT m) (markT 41 :: rest) (skip_other (by decide) rest) xs [x] _ (flat_len _ _ _) fun z hz r => hall z (by rw [hx]; simp [hz]) n (hl z (by rw [hx]; simp [hz])) r]
      simp only
      rw [take_mark]
      have := noTst_eq hb
      cases t; simp [noneT] at this hk hx ⊢; simp [this, hk, hx]
    · simp [cmpB] at hfit hn ⊢
      obtain ⟨⟨⟨ha, hb⟩, hc⟩, hd'⟩ := hfit
      rw [isNum_mat] at ha
      simp at ha
      obtain ⟨mm, hmm⟩ : ∃ mm : Nat, t.mat = (mm : Int) := ⟨t.mat.toNat, by omega⟩
      rw [hmm] at ha ⊢
      simp only [Int.toNat_natCast]
      rw [tags_one mm (by omega) _ (list_first _ _ hb)]
      simp only
      rw [list_back _ _ hb]
      simp only
      rw [list_back _ _ hc]
      have := noTst_eq hd'
      cases t; simp [noneT] at this hk hmm ⊢; simp [this, hk, hmm]
    · simp [cmpB] at hfit hn ⊢
      obtain ⟨⟨⟨⟨ha, hb⟩, hc⟩, hp⟩, hd'⟩ := hfit
      rw [isNum_mat] at ha
      rw [isNum_part] at hp
      simp at ha hp
      obtain ⟨mm, hmm⟩ : ∃ mm : Nat, t.mat = (mm : Int) := ⟨t.mat.toNat, by omega⟩
      obtain ⟨pp, hpp⟩ : ∃ pp : Nat, t.part = (pp : Int) := ⟨t.part.toNat, by omega⟩
      rw [hmm] at ha ⊢
      rw [hpp] at hp ⊢
      simp only [Int.toNat_natCast]
      rw [tags_two mm pp (by omega) (by omega) _ (list_first _ _ hb)]
      simp only
      rw [list_back _ _ hb]
      simp only
      rw [list_back _ _ hc]
      have := noTst_eq hd'
      cases t; simp [noneT] at this hk hmm hpp ⊢; simp [this, hk, hmm, hpp]
    · simp [cmpB] at hfit hn ⊢
      obtain ⟨⟨⟨⟨ha, hb⟩, hc⟩, hp⟩, hd'⟩ := hfit
      rw [isNum_mat] at ha
      rw [isNum_part] at hp
      simp at ha hp
      obtain ⟨mm, hmm⟩ : ∃ mm : Nat, t.mat = (mm : Int) := ⟨t.mat.toNat, by omega⟩
      obtain ⟨pp, hpp⟩ : ∃ pp : Nat, t.part = (pp : Int) := ⟨t.part.toNat, by omega⟩
      rw [hmm] at ha ⊢
      rw [hpp] at hp ⊢
      simp only [Int.toNat_natCast]
      rw [tags_two mm pp (by omega) (by omega) _ (list_first _ _ hb)]
      simp only
      rw [list_back _ _ hb]
      simp only
      rw [list_back _ _ hc]
      have := noTst_eq hd'
      cases t; simp [noneT] at this hk hmm hpp ⊢; simp [this, hk, hmm, hpp]
    · simp at hfit hn ⊢
      obtain ⟨ha, hb⟩ := hfit
      rw [list_back _ _ ha]
      have := noTst_eq hb
      cases t; simp [noneT] at this hk ⊢; simp [this, hk]
    · simp at hfit hn ⊢
      obtain ⟨ha, hb⟩ := hfit
      have := noTst_eq hb
      cases hov : t.over with
      | true =>
        have e : boundR (tagT overW :: ⟨3, [], t.limit⟩ :: rest) = .ok ((true, t.limit), rest) := by unfold boundR skipP tagT takeKP thenR; simp
        simp only [if_true]
        rw [e]
        cases t; simp [noneT] at this hk hov ⊢; simp [this, hk, hov]
      | false =>
        have e : boundR (tagT underW :: ⟨3, [], t.limit⟩ :: rest) = .ok ((false, t.limit), rest) := by
          unfold boundR
          have a : skipP 2 overW (tagT underW :: ⟨3, [], t.limit⟩ :: rest) = none := by unfold skipP tagT; simp [overW, underW]
          rw [a]
          unfold takeTP skipP tagT takeKP thenR
          simp
        simp
        rw [e]
        cases t; simp [noneT] at this hk hov ⊢; simp [this, hk, hov]

def freeR (r : List Tok) : Prop := skipP 1 elsifW r = none ∧ skipP 1 elseW r = none
theorem free_mark (c : UInt8) (r : List Tok) : freeR (markT c :: r) := by constructor <;> (unfold skipP markT; simp)
theorem free_nil : freeR [] := ⟨rfl, rfl⟩
theorem free_word (n : Nat) (h1 : 1 ≤ n) (h2 : n ≤ 10) (r : List Tok) : freeR (wordT (wordOf 0 n) :: r) := by
  match n, h1, h2 with
  | 1, _, _ | 2, _, _ | 3, _, _ | 4, _, _ | 5, _, _ | 6, _, _ | 7, _, _ | 8, _, _ | 9, _, _ | 10, _, _ => exact ⟨rfl, rfl⟩
theorem faultCmd_zero {n d : Nat} {c : Cmd} (h : faultCmd (n + 1) d c = 0) : isNumP 0 c.kind = true ∧ d ≤ 6 ∧ fitsC c = true ∧ (c.kind = 2 → faultTst n 1 c.test = 0 ∧ (∀ x ∈ c.thn, faultCmd n (d + 1) x = 0) ∧ match elsifP c.els with | some x => faultCmd n d x = 0 | none => ∀ x ∈ c.els, faultCmd n (d + 1) x = 0) := by
  rw [faultCmd_step] at h
  by_cases h1 : oneP (isNumP 0 c.kind) d (fitsC c) = 0
  · rw [if_neg (by simpa using h1)] at h
    obtain ⟨a, b, e⟩ := oneP_zero h1
    refine ⟨a, b, e, fun hk => ?_⟩
    rw [if_neg (by simpa using hk)] at h
    by_cases h2 : faultTst n 1 c.test = 0
    · rw [if_neg (by simpa using h2)] at h
      by_cases h3 : firstP (faultCmd n (d + 1)) c.thn = 0
      · rw [if_neg (by simpa using h3)] at h
        refine ⟨h2, firstP_all h3, ?_⟩
        cases he : elsifP c.els with
        | some x => rw [he] at h; exact h
        | none => rw [he] at h; exact firstP_all h
      · rw [if_pos h3] at h; exact absurd h h3
    · rw [if_pos h2] at h; exact absurd h h2
  · rw [if_pos h1] at h; exact absurd h h1
theorem cmd_kind {n d : Nat} {c : Cmd} (h : faultCmd (n + 1) d c = 0) : ∃ k : Nat, c.kind = (k : Int) ∧ 1 ≤ k ∧ k ≤ 10 := by
  obtain ⟨a, _⟩ := faultCmd_zero h
  rw [isNum_cmd] at a
  exact kind_of_num a
theorem free_cmds {m d : Nat} (r : List Tok) (hr : freeR r) : ∀ (l : List Cmd), (∀ x ∈ l, DeepC m x ∧ faultCmd m d x = 0) → freeR (l.flatMap (cmdT m) ++ r) := by
  intro l h
  cases l with
  | nil => exact hr
  | cons x l =>
    obtain ⟨h1, h2⟩ := h x (by simp)
    cases m with
    | zero => exact h1.elim
    | succ m =>
      obtain ⟨k, hk, k1, k2⟩ := cmd_kind h2
      have : (x :: l).flatMap (cmdT (m + 1)) ++ r = wordT (wordOf 0 k) :: (restT (m + 1) x ++ (l.flatMap (cmdT (m + 1)) ++ r)) := by
        simp only [List.flatMap_cons, cmdT, hk]; simp
      rw [this]
      exact free_word k k1 k2 _
theorem mem_len {A : Type} (g : A → List Tok) : ∀ (l : List A) (x : A), x ∈ l → (g x).length ≤ (l.flatMap g).length := by
  intro l
  induction l with
  | nil => intro x h; cases h
  | cons y l ih =>
    intro x h
    simp only [List.flatMap_cons, List.length_append]
    rcases List.mem_cons.1 h with rfl | e
    · omega
    · have := ih x e; omega
/-- A block is read back. -/
theorem block_loop (f : List Tok → Rdg Cmd) (m d : Nat) (rest : List Tok) : ∀ (l acc : List Cmd) (n : Nat), l.length < n → (∀ x ∈ l, DeepC m x ∧ faultCmd m d x = 0) → (∀ x ∈ l, ∀ r, freeR r → f (cmdT m x ++ r) = .ok (x, r)) → blockF f n acc (l.flatMap (cmdT m) ++ markT 125 :: rest) = .ok (acc ++ l, rest) := by
  intro l
  induction l with
  | nil =>
    intro acc n hn _ _
    cases n with
    | zero => simp at hn
    | succ n =>
      simp only [List.flatMap_nil, List.nil_append, List.append_nil]
      rw [blockF, skip_mark]
  | cons x l ih =>
    intro acc n hn hv hf
    cases n with
    | zero => simp at hn
    | succ n =>
      have e : (x :: l).flatMap (cmdT m) ++ markT 125 :: rest = cmdT m x ++ (l.flatMap (cmdT m) ++ markT 125 :: rest) := by simp
      have hs : skipP 5 [125] (cmdT m x ++ (l.flatMap (cmdT m) ++ markT 125 :: rest)) = none := by unfold cmdT skipP wordT; simp
      have hi : (cmdT m x ++ (l.flatMap (cmdT m) ++ markT 125 :: rest)).isEmpty = false := by unfold cmdT; rfl
      rw [e, blockF, hs]
      simp only
      rw [hi, if_neg (by simp), hf x (by simp) _ (free_cmds _ (free_mark _ _) l fun y hy => hv y (by simp [hy]))]
      show blockF f n (acc ++ [x]) _ = _
      rw [ih (acc ++ [x]) n (by simpa using hn) (fun y hy => hv y (by simp [hy])) fun y hy => hf y (by simp [hy])]
      simp
theorem cmds_len (m : Nat) (l : List Cmd) (r : List Tok) : l.length ≤ (l.flatMap (cmdT m) ++ r).length := by
  induction l with
  | nil => simp
  | cons x l ih => simp only [List.flatMap_cons, List.length_append, List.length_cons, cmdT] at ih ⊢; omega
theorem block_back (f : List Tok → Rdg Cmd) (m d : Nat) (rest : List Tok) (l : List Cmd) (hv : ∀ x ∈ l, DeepC m x ∧ faultCmd m d x = 0) (hf : ∀ x ∈ l, ∀ r, freeR r → f (cmdT m x ++ r) = .ok (x, r)) : blockR f (markT 123 :: (l.flatMap (cmdT m) ++ markT 125 :: rest)) = .ok (l, rest) := by
  unfold blockR
  rw [take_mark]
  simp only [thenR]
  have := cmds_len m l (markT 125 :: rest)
  rw [block_loop f m d rest l [] _ (by omega) hv hf]
  rfl
theorem flat_cmdT (m : Nat) (l : List Cmd) : (l.flatMap fun x => wordT (wordOf 0 x.kind.toNat) :: restT m x) = l.flatMap (cmdT m) := rfl

theorem cmd_back : ∀ (m : Nat), (∀ (n d : Nat) (c : Cmd) (rest : List Tok), DeepC m c → faultCmd m d c = 0 → c.kind = 2 → freeR rest → (restT m c).length ≤ n → cmdP n false d (restT m c ++ rest) = .ok (c, rest)) ∧
    (∀ (n d : Nat) (c : Cmd) (rest : List Tok), DeepC m c → faultCmd m d c = 0 → freeR rest → (cmdT m c).length ≤ n → cmdP n true d (cmdT m c ++ rest) = .ok (c, rest)) := by
  intro m
  induction m with
  | zero => exact ⟨fun n d c rest h => h.elim, fun n d c rest h => h.elim⟩
  | succ m ih =>
    have first : ∀ (n d : Nat) (c : Cmd) (rest : List Tok), DeepC (m + 1) c → faultCmd (m + 1) d c = 0 → c.kind = 2 → freeR rest → (restT (m + 1) c).length ≤ n → cmdP n false d (restT (m + 1) c ++ rest) = .ok (c, rest) := by
      intro n d c rest hdeep hf hk hfree hn
      obtain ⟨_, hd, hfit, h2⟩ := faultCmd_zero hf
      obtain ⟨hT, hA, hE⟩ := h2 hk
      obtain ⟨dT, dA, dE⟩ := hdeep
      have htx : c.texts = [] := by
        unfold fitsC at hfit
        rw [hk] at hfit
        simpa using hfit
      have hc : ∀ els, c.els = els → c = ⟨2, [], c.test, c.thn, els⟩ := by intro els he; cases c; simp at hk htx he ⊢; simp [hk, htx, he]
      unfold restT at hn ⊢
      rw [if_pos hk] at hn ⊢
      rw [flat_cmdT] at hn ⊢
      obtain ⟨n, rfl⟩ : ∃ n', n = n' + 1 := ⟨n - 1, by simp at hn; omega⟩
      have hlT : (testT m c.test).length ≤ n := by simp at hn; omega
      have hlA : (c.thn.flatMap (cmdT m)).length ≤ n := by simp only [List.length_append, List.length_cons, List.length_nil] at hn; omega
      have hblock : ∀ (l : List Cmd) (r : List Tok), (∀ x ∈ l, DeepC m x) → (∀ x ∈ l, faultCmd m (d + 1) x = 0) → (l.flatMap (cmdT m)).length ≤ n → blockR (cmdP n true (d + 1)) (markT 123 :: (l.flatMap (cmdT m) ++ markT 125 :: r)) = .ok (l, r) := by
        intro l r h1 h2 h3
        refine block_back _ m (d + 1) r l (fun x hx => ⟨h1 x hx, h2 x hx⟩) fun x hx r hr => ?_
        have := mem_len (cmdT m) l x hx
        exact ih.2 n (d + 1) x r (h1 x hx) (h2 x hx) hr (by omega)
      unfold cmdP
      have e : ∀ tl : List Tok, testT m c.test ++ (markT 123 :: c.thn.flatMap (cmdT m) ++ [markT 125]) ++ tl ++ rest = testT m c.test ++ (markT 123 :: (c.thn.flatMap (cmdT m) ++ markT 125 :: (tl ++ rest))) := by intro tl; simp
      rw [e, test_back m n 1 c.test _ dT hT hlT]
      simp only [thenR]
      rw [hblock _ _ dA hA hlA]
      simp only
      cases he : elsifP c.els with
      | some x =>
        rw [he] at hE hn
        obtain ⟨hx, hx2⟩ := elsifP_some he
        have hl : (restT m x).length ≤ n := by simp at hn; omega
        simp only
        rw [show (wordT elsifW :: restT m x) ++ rest = wordT elsifW :: (restT m x ++ rest) from rfl]
        rw [show skipP 1 elsifW (wordT elsifW :: (restT m x ++ rest)) = some (restT m x ++ rest) from by unfold skipP wordT; simp]
        simp only
        rw [ih.1 n d x rest (dE x (by rw [hx]; simp)) hE hx2 hfree hl]
        simp only
        rw [hc _ hx]
      | none =>
        rw [he] at hE hn
        simp only at hE hn ⊢
        by_cases hz : c.els.length = 0
        · rw [if_pos hz, List.nil_append, hfree.1]
          simp only
          rw [hfree.2]
          simp only
          rw [hc [] (List.length_eq_zero_iff.1 hz)]
        · rw [if_neg hz] at hn ⊢
          rw [flat_cmdT] at hn ⊢
          have hl : (c.els.flatMap (cmdT m)).length ≤ n := by simp only [List.length_append, List.length_cons, List.length_nil] at hn; omega
          have e2 : (wordT elseW :: markT 123 :: c.els.flatMap (cmdT m) ++ [markT 125]) ++ rest = wordT elseW :: (markT 123 :: (c.els.flatMap (cmdT m) ++ markT 125 :: rest)) := by simp
          rw [e2]
          rw [show ∀ r, skipP 1 elsifW (wordT elseW :: r) = none from fun r => by unfold skipP wordT; simp [elsifW, elseW]]
          simp only
          rw [show ∀ r, skipP 1 elseW (wordT elseW :: r) = some r from fun r => by unfold skipP wordT; simp]
          simp only
          rw [hblock _ _ dE hE hl]
          simp only
          rw [hc _ rfl]
    refine ⟨first, ?_⟩
    intro n d c rest hdeep hf hfree hn
    obtain ⟨k, hk, k1, k2⟩ := cmd_kind hf
    obtain ⟨_, hd, hfit, h2⟩ := faultCmd_zero hf
    obtain ⟨n, rfl⟩ : ∃ n', n = n' + 1 := ⟨n - 1, by unfold cmdT at hn; simp at hn; omega⟩
    have hlen : (restT (m + 1) c).length ≤ n := by unfold cmdT at hn; simpa using hn
    have e : cmdT (m + 1) c ++ rest = wordT (wordOf 0 k) :: (restT (m + 1) c ++ rest) := by unfold cmdT; rw [hk]; simp
    unfold cmdP
    rw [e, kind_back 0 d k (by omega) hd k1 k2 (word_ne 0 k (by omega) k1 k2)]
    simp only [thenR]
    by_cases hk2 : k = 2
    · rw [if_pos hk2]
      exact first n d c rest hdeep hf (by rw [hk, hk2]; rfl) hfree hlen
    · rw [if_neg hk2]
      have hk2' : ¬ c.kind = 2 := by rw [hk]; omega
      unfold fitsC at hfit
      by_cases hz : c.kind ≠ 2 ∧ (0 < c.thn.length ∨ 0 < c.els.length ∨ noTst c.test = false)
      · rw [if_pos hz] at hfit; cases hfit
      · rw [if_neg hz] at hfit
        have hz' : c.thn = [] ∧ c.els = [] ∧ c.test = noneT := by
          refine ⟨?_, ?_, ?_⟩
          · cases h : c.thn with
            | nil => rfl
            | cons a b => exact absurd ⟨hk2', .inl (by rw [h]; simp)⟩ hz
          · cases h : c.els with
            | nil => rfl
            | cons a b => exact absurd ⟨hk2', .inr (.inl (by rw [h]; simp))⟩ hz
          · cases h : noTst c.test with
            | true => exact noTst_eq h
            | false => exact absurd ⟨hk2', .inr (.inr h)⟩ hz
        obtain ⟨z1, z2, z3⟩ := hz'
        have hc : ∀ tx, c.texts = tx → c = ⟨k, tx, noneT, [], []⟩ := by intro tx he; cases c; simp at hk z1 z2 z3 he ⊢; simp [hk, z1, z2, z3, he]
        unfold restT
        rw [if_neg hk2']
        rw [hk] at hfit
        by_cases k189 : k = 1 ∨ k = 8 ∨ k = 9
        · rw [if_pos (by omega)] at hfit
          rw [if_pos k189]
          have hp : 0 < c.texts.length := by simpa using hfit
          rw [if_neg (by omega), List.append_assoc, list_back _ _ hp]
          simp only
          rw [show [markT 59] ++ rest = markT 59 :: rest from rfl, take_mark]
          simp only
          rw [hc _ rfl]
        · rw [if_neg (by omega)] at hfit
          rw [if_neg k189]
          by_cases k567 : k = 5 ∨ k = 6 ∨ k = 7
          · rw [if_pos (by omega)] at hfit
            rw [if_pos k567]
            obtain ⟨x, hx⟩ : ∃ x, c.texts = [x] := List.length_eq_one_iff.1 (by simpa using hfit)
            rw [if_neg (by rw [hx]; simp), hx]
            rw [show listT [x] ++ [markT 59] ++ rest = strT x :: (markT 59 :: rest) from rfl, text_str]
            simp only
            rw [take_mark]
            simp only
            rw [hc _ hx]
          · rw [if_neg (by omega)] at hfit
            rw [if_neg k567]
            have hx : c.texts.length = 0 := by simpa using hfit
            rw [if_pos hx]
            rw [show ([] : List Tok) ++ [markT 59] ++ rest = markT 59 :: rest from rfl, take_mark]
            simp only
            rw [hc _ (List.length_eq_zero_iff.1 hx)]
theorem script_loop (f : List Tok → Rdg Cmd) (m d : Nat) : ∀ (l acc : List Cmd) (n : Nat), l.length ≤ n → (∀ x ∈ l, DeepC m x ∧ faultCmd m d x = 0) → (∀ x ∈ l, ∀ r, freeR r → f (cmdT m x ++ r) = .ok (x, r)) → scriptF f n acc (l.flatMap (cmdT m)) = .ok (acc ++ l, []) := by
  intro l
  induction l with
  | nil =>
    intro acc n hn _ _
    cases n with
    | zero => simp [scriptF]
    | succ n => simp [scriptF]
  | cons x l ih =>
    intro acc n hn hv hf
    cases n with
    | zero => simp at hn
    | succ n =>
      have e : (x :: l).flatMap (cmdT m) = cmdT m x ++ l.flatMap (cmdT m) := by simp
      have hi : (cmdT m x ++ l.flatMap (cmdT m)).isEmpty = false := by unfold cmdT; rfl
      have hfr := free_cmds (m := m) (d := d) [] free_nil l fun y hy => hv y (by simp [hy])
      rw [List.append_nil] at hfr
      rw [e, scriptF, hi, if_neg (by simp), hf x (by simp) _ hfr]
      show scriptF f n (acc ++ [x]) _ = _
      rw [ih (acc ++ [x]) n (by simpa using hn) (fun y hy => hv y (by simp [hy])) fun y hy => hf y (by simp [hy])]
      simp
theorem script_back (m : Nat) (l : List Cmd) (hd : ∀ x ∈ l, DeepC m x) (hf : faultCmds m 0 l = 0) : scriptR (cmdsT m l) = .ok (l, []) := by
  have hf' := firstP_all hf
  unfold scriptR
  have h1 := cmds_len m l []
  rw [List.append_nil] at h1
  refine script_loop _ m 0 l [] _ h1 (fun x hx => ⟨hd x hx, hf' x hx⟩) fun x hx r hr => ?_
  have := mem_len (cmdT m) l x hx
  exact (cmd_back m).2 _ 0 x r (hd x hx) (hf' x hx) hr (by unfold cmdsT; omega)

/- What is shown is of tokens that may be. -/
def AllOk (l : List Tok) : Prop := ∀ t ∈ l, faultT t = 0
theorem AllOk.app {a b : List Tok} (h : AllOk a) (k : AllOk b) : AllOk (a ++ b) := fun t ht => by
  rcases List.mem_append.1 ht with e | e
  · exact h t e
  · exact k t e
theorem AllOk.cons {t : Tok} {b : List Tok} (h : faultT t = 0) (k : AllOk b) : AllOk (t :: b) := fun x hx => by
  rcases List.mem_cons.1 hx with e | e
  · rw [e]; exact h
  · exact k x e
theorem allOk_nil : AllOk [] := fun t h => by cases h
theorem AllOk.flat {A : Type} {g : A → List Tok} {l : List A} (h : ∀ x ∈ l, AllOk (g x)) : AllOk (l.flatMap g) := fun t ht => by
  obtain ⟨x, hx, hxt⟩ := List.mem_flatMap.1 ht
  exact h x hx t hxt
theorem AllOk.sep {A : Type} {g : A → List Tok} {l : List A} (h : ∀ x ∈ l, AllOk (g x)) : AllOk (sepT g l) := by
  cases l with
  | nil => exact allOk_nil
  | cons x l => exact AllOk.app (h x (by simp)) (AllOk.flat fun y hy => AllOk.cons (by decide) (h y (by simp [hy])))
theorem str_ok (x : List UInt8) : faultT (strT x) = 0 := rfl
theorem list_ok (l : List (List UInt8)) : AllOk (listT l) := by
  match l with
  | [] => exact AllOk.cons (by decide) (AllOk.app (AllOk.sep fun x hx => by cases hx) (AllOk.cons (by decide) allOk_nil))
  | [x] => exact AllOk.cons (str_ok x) allOk_nil
  | x :: y :: ys => exact AllOk.cons (by decide) (AllOk.app (AllOk.sep fun z _ => AllOk.cons (str_ok z) allOk_nil) (AllOk.cons (by decide) allOk_nil))
theorem wordT_ok (k n : Nat) (hk : k < 2) (h1 : 1 ≤ n) (h2 : n ≤ 10) : faultT (wordT (wordOf k n)) = 0 := by
  match k, hk with
  | 0, _ | 1, _ =>
    match n, h1, h2 with
    | 1, _, _ | 2, _, _ | 3, _, _ | 4, _, _ | 5, _, _ | 6, _, _ | 7, _, _ | 8, _, _ | 9, _, _ | 10, _, _ => decide
theorem tagT_ok (k n : Nat) (hk : 2 ≤ k ∧ k < 4) (h1 : 1 ≤ n) (h2 : n ≤ 3) : faultT (tagT (wordOf k n)) = 0 := by
  match k, hk with
  | 2, _ | 3, _ =>
    match n, h1, h2 with
    | 1, _, _ | 2, _, _ | 3, _, _ => decide
theorem test_ok : ∀ (m d : Nat) (t : Tst), DeepT m t → faultTst m d t = 0 → AllOk (testT m t) := by
  intro m
  induction m with
  | zero => intro d t h; exact h.elim
  | succ m ih =>
    intro d t hdeep hf
    obtain ⟨hnum, hd, hfit, hin⟩ := faultTst_zero hf
    rw [isNum_tst] at hnum
    obtain ⟨k, hk, h1, h2⟩ := kind_of_num hnum
    unfold testT
    unfold fitsT at hfit
    rw [hk] at hfit ⊢
    simp only [Int.toNat_natCast]
    refine AllOk.cons (wordT_ok 1 k (by omega) h1 h2) ?_
    have hall : ∀ x ∈ t.tests, AllOk (testT m x) := fun x hx => ih (d + 1) x (hdeep x hx) (hin x hx)
    by_cases k3 : (k : Int) = 3
    · rw [if_pos k3]
      cases h : t.tests with
      | nil => exact allOk_nil
      | cons x xs => exact hall x (by rw [h]; simp)
    rw [if_neg k3] at hfit ⊢
    by_cases k45 : (k : Int) = 4 ∨ (k : Int) = 5
    · rw [if_pos k45]
      exact AllOk.cons (by decide) (AllOk.app (AllOk.sep hall) (AllOk.cons (by decide) allOk_nil))
    rw [if_neg k45] at hfit ⊢
    by_cases k6 : (k : Int) = 6
    · rw [if_pos k6] at hfit ⊢
      simp [cmpB, isNum_mat] at hfit
      exact AllOk.cons (tagT_ok 2 _ (by omega) (by omega) (by omega)) (AllOk.app (list_ok _) (list_ok _))
    rw [if_neg k6] at hfit ⊢
    by_cases k78 : (k : Int) = 7 ∨ (k : Int) = 8
    · rw [if_pos k78] at hfit ⊢
      simp [cmpB, isNum_mat, isNum_part] at hfit
      exact AllOk.cons (tagT_ok 3 _ (by omega) (by omega) (by omega)) (AllOk.cons (tagT_ok 2 _ (by omega) (by omega) (by omega)) (AllOk.app (list_ok _) (list_ok _)))
    rw [if_neg k78] at hfit ⊢
    by_cases k9 : (k : Int) = 9
    · rw [if_pos k9]
      exact list_ok _
    rw [if_neg k9] at hfit ⊢
    by_cases k10 : (k : Int) = 10
    · rw [if_pos k10] at hfit ⊢
      simp at hfit
      refine AllOk.cons ?_ (AllOk.cons ?_ allOk_nil)
      · cases t.over <;> decide
      · unfold faultT
        rw [if_neg (by simp), if_pos rfl, if_neg (by simp; omega), if_neg (by simp)]
    · rw [if_neg k10]
      exact allOk_nil
theorem cmd_ok : ∀ (m d : Nat) (c : Cmd), DeepC m c → faultCmd m d c = 0 → AllOk (restT m c) ∧ AllOk (cmdT m c) := by
  intro m
  induction m with
  | zero => intro d c h; exact h.elim
  | succ m ih =>
    intro d c hdeep hf
    obtain ⟨k, hk, k1, k2⟩ := cmd_kind hf
    obtain ⟨_, hd, hfit, h2⟩ := faultCmd_zero hf
    have hr : AllOk (restT (m + 1) c) := by
      unfold restT
      by_cases hk2 : c.kind = 2
      · rw [if_pos hk2]
        obtain ⟨hT, hA, hE⟩ := h2 hk2
        obtain ⟨dT, dA, dE⟩ := hdeep
        refine AllOk.app (AllOk.app (test_ok _ _ _ dT hT) (AllOk.app (AllOk.cons (by decide) (AllOk.flat fun x hx => (ih _ x (dA x hx) (hA x hx)).2)) (AllOk.cons (by decide) allOk_nil))) ?_
        cases he : elsifP c.els with
        | some x =>
          rw [he] at hE
          obtain ⟨hx, _⟩ := elsifP_some he
          exact AllOk.cons (by decide) (ih _ x (dE x (by rw [hx]; simp)) hE).1
        | none =>
          rw [he] at hE
          simp only
          by_cases hz : c.els.length = 0
          · rw [if_pos hz]; exact allOk_nil
          · rw [if_neg hz]
            exact AllOk.cons (by decide) (AllOk.app (AllOk.cons (by decide) (AllOk.flat fun x hx => (ih _ x (dE x hx) (hE x hx)).2)) (AllOk.cons (by decide) allOk_nil))
      · rw [if_neg hk2]
        refine AllOk.app ?_ (AllOk.cons (by decide) allOk_nil)
        by_cases hz : c.texts.length = 0
        · rw [if_pos hz]; exact allOk_nil
        · rw [if_neg hz]; exact list_ok _
    refine ⟨hr, ?_⟩
    unfold cmdT
    rw [hk]
    exact AllOk.cons (wordT_ok 0 k (by omega) k1 k2) hr
theorem bad_none : ∀ (l : List Tok) (i : Nat), AllOk l → badTok l i = none := by
  intro l
  induction l with
  | nil => intro i _; rfl
  | cons t l ih =>
    intro i h
    unfold badTok
    rw [if_pos (h t (by simp))]
    exact ih _ fun x hx => h x (by simp [hx])
theorem ok_of_bad : ∀ (l : List Tok) (i : Nat), badTok l i = none → AllOk l := by
  intro l
  induction l with
  | nil => intro i _ t h; cases h
  | cons t l ih =>
    intro i h
    unfold badTok at h
    by_cases ht : faultT t = 0
    · rw [if_pos ht] at h
      exact AllOk.cons ht (ih _ h)
    · rw [if_neg ht] at h; cases h
/-- What may be and is shown is parsed back. -/
theorem parse_back (m : Nat) (l : List Cmd) (hd : ∀ x ∈ l, DeepC m x) (hc : checkM m l = 0) : parseS (cmdsT m l) = (l, 0, 0) := by
  have h0 : faultCmds m 0 l = 0 ∧ (cmdsT m l).length ≤ 400 := by
    unfold checkM at hc
    by_cases h1 : faultCmds m 0 l = 0
    · rw [if_neg (by simpa using h1)] at hc
      by_cases h2 : 400 < (cmdsT m l).length
      · rw [if_pos h2] at hc; cases hc
      · exact ⟨h1, by omega⟩
    · rw [if_pos h1] at hc; exact absurd hc h1
  unfold parseS
  rw [if_neg (by omega), bad_none (cmdsT m l) _ (AllOk.flat fun x hx => (cmd_ok m 0 x (hd x hx) (firstP_all h0.1 x hx)).2)]
  simp only
  rw [script_back m l hd h0.1]
end Go.Proofs.YtdmiidbncpgfpaaDoor
