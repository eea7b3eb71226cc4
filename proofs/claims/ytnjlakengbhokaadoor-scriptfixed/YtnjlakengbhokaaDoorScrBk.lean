/-
  Plain facts on scripts: what may be, once shown, is read back. No program is named here.
  Plain facts on scripts: what is read may be; where reading gives up it says why; what is shown has short words alone. No program is named here.
  What lies in memory is so deep at the most. No function of the program is named here.
-/
import Derived.Test.YtnjlakengbhokaaDoorScrMem
import Derived.Test.YtnjlakengbhokaaDoorScrMemX
namespace Go.Proofs.YtnjlakengbhokaaDoor
open Go.RowKit

theorem skip_mark (c : UInt8) (r : List Tok) : skipP 5 [c] (markT c :: r) = some r := by unfold skipP markT; simp
theorem skip_other {c e : UInt8} (h : e ≠ c) (r : List Tok) : skipP 5 [c] (markT e :: r) = none := by unfold skipP markT; simp [h]
theorem skip_str (c : UInt8) (x : List UInt8) (r : List Tok) : skipP 5 [c] (strT x :: r) = none := by unfold skipP strT; simp
theorem text_str (x : List UInt8) (r : List Tok) : textR (strT x :: r) = .ok (x, r) := by unfold textR takeKP strT thenR; simp
theorem take_mark (c : UInt8) (r : List Tok) : takeTP 5 [c] (markT c :: r) = .ok ((), r) := by unfold takeTP; rw [skip_mark]
theorem loop_back {A : Type} (f : List Tok → Rdg A) (g : A → List Tok) (tail : List Tok) (ht : skipP 5 [44] tail = none) : ∀ (ys acc : List A) (m : Nat), ys.length ≤ m → (∀ y ∈ ys, ∀ rest, f (g y ++ rest) = .ok (y, rest)) → loopF f m acc ((ys.flatMap fun y => markT 44 :: g y) ++ tail) = .ok (acc ++ ys, tail) := by
  intro ys
  induction ys with
  | nil =>
    intro acc m _ _
    simp only [List.flatMap_nil, List.nil_append, List.append_nil]
    cases m with
    | zero => rfl
    | succ m => unfold loopF; rw [ht]
  | cons y ys ih =>
    intro acc m hm hf
    cases m with
    | zero => simp at hm
    | succ m =>
      have e : ((y :: ys).flatMap fun y => markT 44 :: g y) ++ tail = markT 44 :: (g y ++ ((ys.flatMap fun y => markT 44 :: g y) ++ tail)) := by simp [List.append_assoc]
      rw [e, loopF, skip_mark]
      simp only
      rw [hf y (by simp)]
      show loopF f m (acc ++ [y]) _ = _
      rw [ih (acc ++ [y]) m (by simpa using hm) fun z hz => hf z (by simp [hz])]
      simp
theorem flat_len {A : Type} (g : A → List Tok) (tail : List Tok) (ys : List A) : ys.length ≤ ((ys.flatMap fun y => markT 44 :: g y) ++ tail).length := by
  induction ys with
  | nil => simp
  | cons y ys ih => simp only [List.flatMap_cons, List.length_append, List.length_cons] at ih ⊢; omega
theorem list_back (l : List (List UInt8)) (r : List Tok) (h : 0 < l.length) : listR (listT l ++ r) = .ok (l, r) := by
  match l, h with
  | [x], _ =>
    show listR (strT x :: r) = _
    unfold listR
    rw [skip_str]
    simp only
    rw [text_str]
    rfl
  | x :: y :: ys, _ =>
    have e : listT (x :: y :: ys) ++ r = markT 91 :: (strT x :: (((y :: ys).flatMap fun z => markT 44 :: [strT z]) ++ (markT 93 :: r))) := by
      show markT 91 :: (sepT (fun x => [strT x]) (x :: y :: ys) ++ [markT 93]) ++ r = _
      simp [sepT, List.append_assoc]
    rw [e]
    unfold listR
    rw [skip_mark]
    simp only
    rw [text_str]
    show thenR (loopF textR _ [x] _) _ = _
    rw [loop_back textR (fun z => [strT z]) (markT 93 :: r) (skip_other (by decide) r) (y :: ys) [x] _ (flat_len _ _ _) fun z _ rest => text_str z rest]
    show thenR (.ok _) _ = _
    unfold thenR
    simp only
    rw [take_mark]
    rfl
theorem number_back (k n : Nat) (hk : k < 4) (h1 : 1 ≤ n) (h2 : n ≤ 10) (hw : wordOf k n ≠ []) : numberP k (wordOf k n) = n := by
  match k, hk with
  | 0, _ | 1, _ | 2, _ | 3, _ =>
    match n, h1, h2, hw with
    | 1, _, _, hw | 2, _, _, hw | 3, _, _, hw | 4, _, _, hw | 5, _, _, hw | 6, _, _, hw | 7, _, _, hw | 8, _, _, hw | 9, _, _, hw | 10, _, _, hw => first | rfl | exact absurd rfl hw
theorem kind_back (k d n : Nat) (hk : k < 4) (hd : d ≤ 6) (h1 : 1 ≤ n) (h2 : n ≤ 10) (hw : wordOf k n ≠ []) (r : List Tok) : kindP k d (wordT (wordOf k n) :: r) = .ok (n, r) := by
  unfold kindP
  rw [if_neg (by omega)]
  simp only
  rw [show (wordT (wordOf k n)).text = wordOf k n from rfl, number_back k n hk h1 h2 hw, if_pos ⟨rfl, by omega⟩]

/-- So deep at the most. -/
def DeepT : Nat → Tst → Prop
  | 0, _ => False
  | n + 1, t => ∀ x ∈ t.tests, DeepT n x
def DeepC : Nat → Cmd → Prop
  | 0, _ => False
  | n + 1, c => DeepT n c.test ∧ (∀ x ∈ c.thn, DeepC n x) ∧ ∀ x ∈ c.els, DeepC n x
theorem DeepT.more : ∀ (n m : Nat) (t : Tst), n ≤ m → DeepT n t → DeepT m t := by
  intro n
  induction n with
  | zero => intro m t _ h; exact h.elim
  | succ n ih =>
    intro m t hm h
    cases m with
    | zero => omega
    | succ m => exact fun x hx => ih m x (by omega) (h x hx)
theorem DeepC.more : ∀ (n m : Nat) (t : Cmd), n ≤ m → DeepC n t → DeepC m t := by
  intro n
  induction n with
  | zero => intro m t _ h; exact h.elim
  | succ n ih =>
    intro m t hm h
    cases m with
    | zero => omega
    | succ m => exact ⟨DeepT.more _ _ _ (by omega) h.1, fun x hx => ih m x (by omega) (h.2.1 x hx), fun x hx => ih m x (by omega) (h.2.2 x hx)⟩
theorem firstP_all {A : Type} {f : A → Int} : ∀ {l : List A}, firstP f l = 0 → ∀ x ∈ l, f x = 0 := by
  intro l
  induction l with
  | nil => intro _ x hx; cases hx
  | cons y l ih =>
    intro h x hx
    unfold firstP at h
    by_cases hy : f y = 0
    · rw [if_pos hy] at h
      rcases List.mem_cons.1 hx with e | e
      · rw [e]; exact hy
      · exact ih h x e
    · rw [if_neg hy] at h; exact absurd h hy
theorem firstP_none {A : Type} {f : A → Int} : ∀ {l : List A}, (∀ x ∈ l, f x = 0) → firstP f l = 0 := by
  intro l
  induction l with
  | nil => intro _; rfl
  | cons y l ih =>
    intro h
    unfold firstP
    rw [if_pos (h y (by simp))]
    exact ih fun x hx => h x (by simp [hx])
theorem oneP_zero {k : Bool} {d : Nat} {f : Bool} (h : oneP k d f = 0) : k = true ∧ d ≤ 6 ∧ f = true := by
  unfold oneP at h
  cases k with
  | false => simp at h
  | true =>
    rw [if_neg (by simp)] at h
    by_cases hd : 6 < d
    · rw [if_pos hd] at h; cases h
    · rw [if_neg hd] at h
      cases f with
      | false => simp at h
      | true => exact ⟨rfl, by omega, rfl⟩
theorem oneP_is {k : Bool} {d : Nat} {f : Bool} (hk : k = true) (hd : d ≤ 6) (hf : f = true) : oneP k d f = 0 := by
  subst hk hf; unfold oneP; rw [if_neg (by simp), if_neg (by omega), if_neg (by simp)]
theorem noTst_eq {t : Tst} (h : noTst t = true) : t = noneT := by
  obtain ⟨a, b, c, d, e, f, g, i⟩ := t
  simp [noTst] at h
  obtain ⟨⟨⟨⟨⟨⟨⟨rfl, rfl⟩, rfl⟩, rfl⟩, rfl⟩, rfl⟩, rfl⟩, rfl⟩ := h
  rfl
theorem kind_of_num {n : Int} (h : (decide (1 ≤ n) && decide (n ≤ 10)) = true) : ∃ k : Nat, n = (k : Int) ∧ 1 ≤ k ∧ k ≤ 10 := by
  simp at h
  exact ⟨n.toNat, by omega, by omega, by omega⟩
theorem faultTst_zero {n d : Nat} {t : Tst} (h : faultTst (n + 1) d t = 0) : isNumP 1 t.kind = true ∧ d ≤ 6 ∧ fitsT t = true ∧ ∀ x ∈ t.tests, faultTst n (d + 1) x = 0 := by
  unfold faultTst at h
  by_cases h1 : oneP (isNumP 1 t.kind) d (fitsT t) = 0
  · rw [if_pos h1] at h
    obtain ⟨a, b, c⟩ := oneP_zero h1
    exact ⟨a, b, c, firstP_all h⟩
  · rw [if_neg h1] at h; exact absurd h h1
theorem num_cases {k : Nat} (h1 : 1 ≤ k) (h2 : k ≤ 10) : k = 1 ∨ k = 2 ∨ k = 3 ∨ k = 4 ∨ k = 5 ∨ k = 6 ∨ k = 7 ∨ k = 8 ∨ k = 9 ∨ k = 10 := by omega
theorem word_ne (k n : Nat) (hk : k < 2) (h1 : 1 ≤ n) (h2 : n ≤ 10) : wordOf k n ≠ [] := by
  match k, hk with
  | 0, _ | 1, _ =>
    match n, h1, h2 with
    | 1, _, _ | 2, _, _ | 3, _, _ | 4, _, _ | 5, _, _ | 6, _, _ | 7, _, _ | 8, _, _ | 9, _, _ | 10, _, _ => decide
theorem word_ne' (k n : Nat) (hk : 2 ≤ k ∧ k < 4) (h1 : 1 ≤ n) (h2 : n ≤ 3) : wordOf k n ≠ [] := by
  match k, hk with
  | 2, _ | 3, _ =>
    match n, h1, h2 with
    | 1, _, _ | 2, _, _ | 3, _, _ => decide
theorem sep_len {A : Type} (g : A → List Tok) : ∀ (l : List A) (x : A), x ∈ l → (g x).length ≤ (sepT g l).length := by
  intro l x hx
  cases l with
  | nil => cases hx
  | cons y l =>
    show _ ≤ (g y ++ l.flatMap fun y => markT 44 :: g y).length
    rw [List.length_append]
    rcases List.mem_cons.1 hx with rfl | e
    · omega
    · have : (g x).length ≤ (l.flatMap fun y => markT 44 :: g y).length := by
        clear hx
        induction l with
        | nil => cases e
        | cons z l ih =>
          simp only [List.flatMap_cons, List.length_append, List.length_cons]
          rcases List.mem_cons.1 e with rfl | e
          · omega
          · have := ih e; omega
      omega
theorem tags_m {b : Bool} {t : Tok} {q : List Tok} {p : Nat} (hk : t.kind = 2) (h : numberP 2 t.text ≠ 0) : tagsF b (t :: q) 0 p = tagsF b q (numberP 2 t.text) p := by
  rw [tagsF]; simp [hk, h]
theorem tags_p {t : Tok} {q : List Tok} {m : Nat} (hk : t.kind = 2) (h2 : numberP 2 t.text = 0) (h3 : numberP 3 t.text ≠ 0) : tagsF true (t :: q) m 0 = tagsF true q m (numberP 3 t.text) := by
  rw [tagsF]; simp [hk, h2, h3]
theorem tags_two (m p : Nat) (hm : 1 ≤ m ∧ m ≤ 3) (hp : 1 ≤ p ∧ p ≤ 3) (r : List Tok) (hr : ∀ t q, r = t :: q → t.kind ≠ 2) : tagsF true (tagT (wordOf 3 p) :: tagT (wordOf 2 m) :: r) 0 0 = .ok ((m, p), r) := by
  have hend : tagsF true r m p = .ok ((m, p), r) := by
    cases r with
    | nil => unfold tagsF; rw [if_neg (by omega), if_neg (by omega)]
    | cons t q => unfold tagsF; rw [if_neg (hr t q rfl), if_neg (by omega), if_neg (by omega)]
  have h2 : numberP 2 (wordOf 3 p) = 0 := by
    obtain ⟨h1, h2⟩ := hp
    match p, h1, h2 with
    | 1, _, _ | 2, _, _ | 3, _, _ => rfl
  have h3 : numberP 3 (wordOf 3 p) = p := number_back 3 p (by omega) hp.1 (by omega) (word_ne' 3 p (by omega) hp.1 hp.2)
  have h4 : numberP 2 (wordOf 2 m) = m := number_back 2 m (by omega) hm.1 (by omega) (word_ne' 2 m (by omega) hm.1 hm.2)
  rw [tags_p rfl h2 (by rw [show (tagT (wordOf 3 p)).text = wordOf 3 p from rfl, h3]; omega), tags_m rfl (by rw [show (tagT (wordOf 2 m)).text = wordOf 2 m from rfl, h4]; omega)]
  rw [show (tagT (wordOf 2 m)).text = wordOf 2 m from rfl, show (tagT (wordOf 3 p)).text = wordOf 3 p from rfl, h3, h4, hend]
theorem tags_one (m : Nat) (hm : 1 ≤ m ∧ m ≤ 3) (r : List Tok) (hr : ∀ t q, r = t :: q → t.kind ≠ 2) : tagsF false (tagT (wordOf 2 m) :: r) 0 0 = .ok ((m, 0), r) := by
  have hend : tagsF false r m 0 = .ok ((m, 0), r) := by
    cases r with
    | nil => unfold tagsF; rw [if_neg (by omega)]; rfl
    | cons t q => unfold tagsF; rw [if_neg (hr t q rfl), if_neg (by omega)]; rfl
  have h4 : numberP 2 (wordOf 2 m) = m := number_back 2 m (by omega) hm.1 (by omega) (word_ne' 2 m (by omega) hm.1 hm.2)
  rw [tags_m rfl (by rw [show (tagT (wordOf 2 m)).text = wordOf 2 m from rfl, h4]; omega)]
  rw [show (tagT (wordOf 2 m)).text = wordOf 2 m from rfl, h4, hend]
theorem list_first (l : List (List UInt8)) (r : List Tok) (h : 0 < l.length) : ∀ t q, listT l ++ r = t :: q → t.kind ≠ 2 := by
  intro t q e
  match l, h with
  | [x], _ => cases e; exact fun h => by cases h
  | x :: y :: ys, _ => cases e; exact fun h => by cases h

set_option maxRecDepth 4000 in
theorem test_back : ∀ (m n d : Nat) (t : Tst) (rest : List Tok), DeepT m t → faultTst m d t = 0 → (testT m t).length ≤ n → testP n d (testT m t ++ rest) = .ok (t, rest) := by
  intro m
  induction m with
  | zero => intro n d t rest h; exact h.elim
  | succ m ih =>
    intro n d t rest hdeep hf hn
    obtain ⟨hnum, hd, hfit, hin⟩ := faultTst_zero hf
    rw [isNum_tst] at hnum
    obtain ⟨k, hk, h1, h2⟩ := kind_of_num hnum
    have hlen : 1 ≤ (testT (m + 1) t).length := by unfold testT; simp
    obtain ⟨n, rfl⟩ : ∃ n', n = n' + 1 := ⟨n - 1, by omega⟩
    have hkb := fun r => kind_back 1 d k (by omega) hd h1 h2 (word_ne 1 k (by omega) h1 h2) r
    unfold testP
    unfold testT at hn ⊢
    rw [hk] at hn ⊢
    simp only [Int.toNat_natCast] at hn ⊢
    rw [List.cons_append, hkb]
    simp only [thenR]
    unfold fitsT at hfit
    rw [hk] at hfit
    have hall : ∀ x ∈ t.tests, ∀ (k : Nat), (testT m x).length ≤ k → ∀ r, testP k (d + 1) (testT m x ++ r) = .ok (x, r) := fun x hx k hk r => ih k (d + 1) x r (hdeep x hx) (hin x hx) hk
    rcases num_cases h1 h2 with rfl | rfl | rfl | rfl | rfl | rfl | rfl | rfl | rfl | rfl
    · simp at hfit hn ⊢
      have := noTst_eq hfit
      cases t; simp [noneT] at this hk ⊢; simp [this, hk]
    · simp at hfit hn ⊢
      have := noTst_eq hfit
      cases t; simp [noneT] at this hk ⊢; simp [this, hk]
    · simp at hfit hn ⊢
      obtain ⟨ha, hb⟩ := hfit
      obtain ⟨x, hx⟩ : ∃ x, t.tests = [x] := List.length_eq_one_iff.1 ha
      rw [hx] at hn ⊢
      simp at hn ⊢
      rw [hall x (by rw [hx]; simp) n (by omega) rest]
      have := noTst_eq hb
      cases t; simp [noneT] at this hk hx ⊢; simp [this, hk, hx]
    · simp at hfit hn ⊢
      obtain ⟨ha, hb⟩ := hfit
      obtain ⟨x, xs, hx⟩ : ∃ x xs, t.tests = x :: xs := by
        cases h : t.tests with
        | nil => rw [h] at ha; simp at ha
        | cons x xs => exact ⟨x, xs, rfl⟩
      have hl : ∀ y ∈ t.tests, (testT m y).length ≤ n := fun y hy => by have := sep_len (testT m) t.tests y hy; omega
      unfold testsR
      rw [take_mark]
      simp only [thenR]
      rw [hx]
      have e : sepT (testT m) (x :: xs) ++ markT 41 :: rest = testT m x ++ ((xs.flatMap fun y => markT 44 :: testT m y) ++ markT 41 :: rest) := by simp [sepT]
      rw [e, hall x (by rw [hx]; simp) n (hl x (by rw [hx]; simp))]
      simp only
      rw [loop_back (testP n (d + 1)) (testT m) (markT 41 :: rest) (skip_other (by decide) rest) xs [x] _ (flat_len _ _ _) fun z hz r => hall z (by rw [hx]; simp [hz]) n (hl z (by rw [hx]; simp [hz])) r]
      simp only
      rw [take_mark]
      have := noTst_eq hb
      cases t; simp [noneT] at this hk hx ⊢; simp [this, hk, hx]
    · simp at hfit hn ⊢
      obtain ⟨ha, hb⟩ := hfit
      obtain ⟨x, xs, hx⟩ : ∃ x xs, t.tests = x :: xs := by
        cases h : t.tests with
        | nil => rw [h] at ha; simp at ha
        | cons x xs => exact ⟨x, xs, rfl⟩
      have hl : ∀ y ∈ t.tests, (testT m y).length ≤ n := fun y hy => by have := sep_len (testT m) t.tests y hy; omega
      unfold testsR
      rw [take_mark]
      simp only [thenR]
      rw [hx]
      have e : sepT (testT m) (x :: xs) ++ markT 41 :: rest = testT m x ++ ((xs.flatMap fun y => markT 44 :: testT m y) ++ markT 41 :: rest) := by simp [sepT]
      rw [e, hall x (by rw [hx]; simp) n (hl x (by rw [hx]; simp))]
      simp only
      rw [loop_back (testP n (d + 1)) (testT m) (markT 41 :: rest) (skip_other (by decide) rest) xs [x] _ (flat_len _ _ _) fun z hz r => hall z (by rw [hx]; simp [hz]) n (hl z (by rw [hx]; simp [hz])) r]
      simp only
      rw [take_mark]
      have := noTst_eq hb
      cases t; simp [noneT] at this hk hx ⊢; simp [this, hk, hx]
    · simp [cmpB] at hfit hn ⊢
      obtain ⟨⟨⟨ha, hb⟩, hc⟩, hd'⟩ := hfit
      rw [isNum_mat] at ha
      simp at ha
      obtain ⟨mm, hmm⟩ : ∃ mm : Nat, t.mat = (mm : Int) := ⟨t.mat.toNat, by omega⟩
      rw [hmm] at ha ⊢
      simp only [Int.toNat_natCast]
      rw [tags_one mm (by omega) _ (list_first _ _ hb)]
      simp only
      rw [list_back _ _ hb]
      simp only
      rw [list_back _ _ hc]
      have := noTst_eq hd'
      cases t; simp [noneT] at this hk hmm ⊢; simp [this, hk, hmm]
    · simp [cmpB] at hfit hn ⊢
      obtain ⟨⟨⟨⟨ha, hb⟩, hc⟩, hp⟩, hd'⟩ := hfit
      rw [isNum_mat] at ha
      rw [isNum_part] at hp
      simp at ha hp
      obtain ⟨mm, hmm⟩ : ∃ mm : Nat, t.mat = (mm : Int) := ⟨t.mat.toNat, by omega⟩
      obtain ⟨pp, hpp⟩ : ∃ pp : Nat, t.part = (pp : Int) := ⟨t.part.toNat, by omega⟩
      rw [hmm] at ha ⊢
      rw [hpp] at hp ⊢
      simp only [Int.toNat_natCast]
      rw [tags_two mm pp (by omega) (by omega) _ (list_first _ _ hb)]
      simp only
      rw [list_back _ _ hb]
      simp only
      rw [list_back _ _ hc]
      have := noTst_eq hd'
      cases t; simp [noneT] at this hk hmm hpp ⊢; simp [this, hk, hmm, hpp]
    · simp [cmpB] at hfit hn ⊢
      obtain ⟨⟨⟨⟨ha, hb⟩, hc⟩, hp⟩, hd'⟩ := hfit
      rw [isNum_mat] at ha
      rw [isNum_part] at hp
      simp at ha hp
      obtain ⟨mm, hmm⟩ : ∃ mm : Nat, t.mat = (mm : Int) := ⟨t.mat.toNat, by omega⟩
      obtain ⟨pp, hpp⟩ : ∃ pp : Nat, t.part = (pp : Int) := ⟨t.part.toNat, by omega⟩
      rw [hmm] at ha ⊢
      rw [hpp] at hp ⊢
      simp only [Int.toNat_natCast]
      rw [tags_two mm pp (by omega) (by omega) _ (list_first _ _ hb)]
      simp only
      rw [list_back _ _ hb]
      simp only
      rw [list_back _ _ hc]
      have := noTst_eq hd'
      cases t; simp [noneT] at this hk hmm hpp ⊢; simp [this, hk, hmm, hpp]
    · simp at hfit hn ⊢
      obtain ⟨ha, hb⟩ := hfit
      rw [list_back _ _ ha]
      have := noTst_eq hb
      cases t; simp [noneT] at this hk ⊢; simp [this, hk]
    · simp at hfit hn ⊢
      obtain ⟨ha, hb⟩ := hfit
      have := noTst_eq hb
      cases hov : t.over with
      | true =>
        have e : boundR (tagT overW :: ⟨3, [], t.limit⟩ :: rest) = .ok ((true, t.limit), rest) := by unfold boundR skipP tagT takeKP thenR; simp
        simp only [if_true]
        rw [e]
        cases t; simp [noneT] at this hk hov ⊢; simp [this, hk, hov]
      | false =>
        have e : boundR (tagT underW :: ⟨3, [], t.limit⟩ :: rest) = .ok ((false, t.limit), rest) := by
          unfold boundR
          have a : skipP 2 overW (tagT underW :: ⟨3, [], t.limit⟩ :: rest) = none := by unfold skipP tagT; simp [overW, underW]
          rw [a]
          unfold takeTP skipP tagT takeKP thenR
          simp
        simp
        rw [e]
        cases t; simp [noneT] at this hk hov ⊢; simp [this, hk, hov]

def freeR (r : List Tok) : Prop := skipP 1 elsifW r = none ∧ skipP 1 elseW r = none
theorem free_mark (c : UInt8) (r : List Tok) : freeR (markT c :: r) := by constructor <;> (unfold skipP markT; simp)
theorem free_nil : freeR [] := ⟨rfl, rfl⟩
theorem free_word (n : Nat) (h1 : 1 ≤ n) (h2 : n ≤ 10) (r : List Tok) : freeR (wordT (wordOf 0 n) :: r) := by
  match n, h1, h2 with
  | 1, _, _ | 2, _, _ | 3, _, _ | 4, _, _ | 5, _, _ | 6, _, _ | 7, _, _ | 8, _, _ | 9, _, _ | 10, _, _ => exact ⟨rfl, rfl⟩
theorem faultCmd_zero {n d : Nat} {c : Cmd} (h : faultCmd (n + 1) d c = 0) : isNumP 0 c.kind = true ∧ d ≤ 6 ∧ fitsC c = true ∧ (c.kind = 2 → faultTst n 1 c.test = 0 ∧ (∀ x ∈ c.thn, faultCmd n (d + 1) x = 0) ∧ match elsifP c.els with | some x => faultCmd n d x = 0 | none => ∀ x ∈ c.els, faultCmd n (d + 1) x = 0) := by
  rw [faultCmd_step] at h
  by_cases h1 : oneP (isNumP 0 c.kind) d (fitsC c) = 0
  · rw [if_neg (by simpa using h1)] at h
    obtain ⟨a, b, e⟩ := oneP_zero h1
    refine ⟨a, b, e, fun hk => ?_⟩
    rw [if_neg (by simpa using hk)] at h
    by_cases h2 : faultTst n 1 c.test = 0
    · rw [if_neg (by simpa using h2)] at h
      by_cases h3 : firstP (faultCmd n (d + 1)) c.thn = 0
      · rw [if_neg (by simpa using h3)] at h
        refine ⟨h2, firstP_all h3, ?_⟩
        cases he : elsifP c.els with
        | some x => rw [he] at h; exact h
        | none => rw [he] at h; exact firstP_all h
      · rw [if_pos h3] at h; exact absurd h h3
    · rw [if_pos h2] at h; exact absurd h h2
  · rw [if_pos h1] at h; exact absurd h h1
theorem cmd_kind {n d : Nat} {c : Cmd} (h : faultCmd (n + 1) d c = 0) : ∃ k : Nat, c.kind = (k : Int) ∧ 1 ≤ k ∧ k ≤ 10 := by
  obtain ⟨a, _⟩ := faultCmd_zero h
  rw [isNum_cmd] at a
  exact kind_of_num a
theorem free_cmds {m d : Nat} (r : List Tok) (hr : freeR r) : ∀ (l : List Cmd), (∀ x ∈ l, DeepC m x ∧ faultCmd m d x = 0) → freeR (l.flatMap (cmdT m) ++ r) := by
  intro l h
  cases l with
  | nil => exact hr
  | cons x l =>
    obtain ⟨h1, h2⟩ := h x (by simp)
    cases m with
    | zero => exact h1.elim
    | succ m =>
      obtain ⟨k, hk, k1, k2⟩ := cmd_kind h2
      have : (x :: l).flatMap (cmdT (m + 1)) ++ r = wordT (wordOf 0 k) :: (restT (m + 1) x ++ (l.flatMap (cmdT (m + 1)) ++ r)) := by
        simp only [List.flatMap_cons, cmdT, hk]; simp
      rw [this]
      exact free_word k k1 k2 _
theorem mem_len {A : Type} (g : A → List Tok) : ∀ (l : List A) (x : A), x ∈ l → (g x).length ≤ (l.flatMap g).length := by
  intro l
  induction l with
  | nil => intro x h; cases h
  | cons y l ih =>
    intro x h
    simp only [List.flatMap_cons, List.length_append]
    rcases List.mem_cons.1 h with rfl | e
    · omega
    · have := ih x e; omega
/-- A block is read back. -/
theorem block_loop (f : List Tok → Rdg Cmd) (m d : Nat) (rest : List Tok) : ∀ (l acc : List Cmd) (n : Nat), l.length < n → (∀ x ∈ l, DeepC m x ∧ faultCmd m d x = 0) → (∀ x ∈ l, ∀ r, freeR r → f (cmdT m x ++ r) = .ok (x, r)) → blockF f n acc (l.flatMap (cmdT m) ++ markT 125 :: rest) = .ok (acc ++ l, rest) := by
  intro l
  induction l with
  | nil =>
    intro acc n hn _ _
    cases n with
    | zero => simp at hn
    | succ n =>
      simp only [List.flatMap_nil, List.nil_append, List.append_nil]
      rw [blockF, skip_mark]
  | cons x l ih =>
    intro acc n hn hv hf
    cases n with
    | zero => simp at hn
    | succ n =>
      have e : (x :: l).flatMap (cmdT m) ++ markT 125 :: rest = cmdT m x ++ (l.flatMap (cmdT m) ++ markT 125 :: rest) := by simp
      have hs : skipP 5 [125] (cmdT m x ++ (l.flatMap (cmdT m) ++ markT 125 :: rest)) = none := by unfold cmdT skipP wordT; simp
      have hi : (cmdT m x ++ (l.flatMap (cmdT m) ++ markT 125 :: rest)).isEmpty = false := by unfold cmdT; rfl
      rw [e, blockF, hs]
      simp only
      rw [hi, if_neg (by simp), hf x (by simp) _ (free_cmds _ (free_mark _ _) l fun y hy => hv y (by simp [hy]))]
      show blockF f n (acc ++ [x]) _ = _
      rw [ih (acc ++ [x]) n (by simpa using hn) (fun y hy => hv y (by simp [hy])) fun y hy => hf y (by simp [hy])]
      simp
theorem cmds_len (m : Nat) (l : List Cmd) (r : List Tok) : l.length ≤ (l.flatMap (cmdT m) ++ r).length := by
  induction l with
  | nil => simp
  | cons x l ih => simp only [List.flatMap_cons, List.length_append, List.length_cons, cmdT] at ih ⊢; omega
theorem block_back (f : List Tok → Rdg Cmd) (m d : Nat) (rest : List Tok) (l : List Cmd) (hv : ∀ x ∈ l, DeepC m x ∧ faultCmd m d x = 0) (hf : ∀ x ∈ l, ∀ r, freeR r → f (cmdT m x ++ r) = .ok (x, r)) : blockR f (markT 123 :: (l.flatMap (cmdT m) ++ markT 125 :: rest)) = .ok (l, rest) := by
  unfold blockR
  rw [take_mark]
  simp only [thenR]
  have := cmds_len m l (markT 125 :: rest)
  rw [block_loop f m d rest l [] _ (by omega) hv hf]
  rfl
theorem flat_cmdT (m : Nat) (l : List Cmd) : (l.flatMap fun x => wordT (wordOf 0 x.kind.toNat) :: restT m x) = l.flatMap (cmdT m) := rfl

theorem cmd_back : ∀ (m : Nat), (∀ (n d : Nat) (c : Cmd) (rest : List Tok), DeepC m c → faultCmd m d c = 0 → c.kind = 2 → freeR rest → (restT m c).length ≤ n → cmdP n false d (restT m c ++ rest) = .ok (c, rest)) ∧
    (∀ (n d : Nat) (c : Cmd) (rest : List Tok), DeepC m c → faultCmd m d c = 0 → freeR rest → (cmdT m c).length ≤ n → cmdP n true d (cmdT m c ++ rest) = .ok (c, rest)) := by
  intro m
  induction m with
  | zero => exact ⟨fun n d c rest h => h.elim, fun n d c rest h => h.elim⟩
  | succ m ih =>
    have first : ∀ (n d : Nat) (c : Cmd) (rest : List Tok), DeepC (m + 1) c → faultCmd (m + 1) d c = 0 → c.kind = 2 → freeR rest → (restT (m + 1) c).length ≤ n → cmdP n false d (restT (m + 1) c ++ rest) = .ok (c, rest) := by
      intro n d c rest hdeep hf hk hfree hn
      obtain ⟨_, hd, hfit, h2⟩ := faultCmd_zero hf
      obtain ⟨hT, hA, hE⟩ := h2 hk
      obtain ⟨dT, dA, dE⟩ := hdeep
      have htx : c.texts = [] := by
        unfold fitsC at hfit
        rw [hk] at hfit
        simpa using hfit
      have hc : ∀ els, c.els = els → c = ⟨2, [], c.test, c.thn, els⟩ := by intro els he; cases c; simp at hk htx he ⊢; simp [hk, htx, he]
      unfold restT at hn ⊢
      rw [if_pos hk] at hn ⊢
      rw [flat_cmdT] at hn ⊢
      obtain ⟨n, rfl⟩ : ∃ n', n = n' + 1 := ⟨n - 1, by simp at hn; omega⟩
      have hlT : (testT m c.test).length ≤ n := by simp at hn; omega
      have hlA : (c.thn.flatMap (cmdT m)).length ≤ n := by simp only [List.length_append, List.length_cons, List.length_nil] at hn; omega
      have hblock : ∀ (l : List Cmd) (r : List Tok), (∀ x ∈ l, DeepC m x) → (∀ x ∈ l, faultCmd m (d + 1) x = 0) → (l.flatMap (cmdT m)).length ≤ n → blockR (cmdP n true (d + 1)) (markT 123 :: (l.flatMap (cmdT m) ++ markT 125 :: r)) = .ok (l, r) := by
        intro l r h1 h2 h3
        refine block_back _ m (d + 1) r l (fun x hx => ⟨h1 x hx, h2 x hx⟩) fun x hx r hr => ?_
        have := mem_len (cmdT m) l x hx
        exact ih.2 n (d + 1) x r (h1 x hx) (h2 x hx) hr (by omega)
      unfold cmdP
      have e : ∀ tl : List Tok, testT m c.test ++ (markT 123 :: c.thn.flatMap (cmdT m) ++ [markT 125]) ++ tl ++ rest = testT m c.test ++ (markT 123 :: (c.thn.flatMap (cmdT m) ++ markT 125 :: (tl ++ rest))) := by intro tl; simp
      rw [e, test_back m n 1 c.test _ dT hT hlT]
      simp only [thenR]
      rw [hblock _ _ dA hA hlA]
      simp only
      cases he : elsifP c.els with
      | some x =>
        rw [he] at hE hn
        obtain ⟨hx, hx2⟩ := elsifP_some he
        have hl : (restT m x).length ≤ n := by simp at hn; omega
        simp only
        rw [show (wordT elsifW :: restT m x) ++ rest = wordT elsifW :: (restT m x ++ rest) from rfl]
        rw [show skipP 1 elsifW (wordT elsifW :: (restT m x ++ rest)) = some (restT m x ++ rest) from by unfold skipP wordT; simp]
        simp only
        rw [ih.1 n d x rest (dE x (by rw [hx]; simp)) hE hx2 hfree hl]
        simp only
        rw [hc _ hx]
      | none =>
        rw [he] at hE hn
        simp only at hE hn ⊢
        by_cases hz : c.els.length = 0
        · rw [if_pos hz, List.nil_append, hfree.1]
          simp only
          rw [hfree.2]
          simp only
          rw [hc [] (List.length_eq_zero_iff.1 hz)]
        · rw [if_neg hz] at hn ⊢
          rw [flat_cmdT] at hn ⊢
          have hl : (c.els.flatMap (cmdT m)).length ≤ n := by simp only [List.length_append, List.length_cons, List.length_nil] at hn; omega
          have e2 : (wordT elseW :: markT 123 :: c.els.flatMap (cmdT m) ++ [markT 125]) ++ rest = wordT elseW :: (markT 123 :: (c.els.flatMap (cmdT m) ++ markT 125 :: rest)) := by simp
          rw [e2]
          rw [show ∀ r, skipP 1 elsifW (wordT elseW :: r) = none from fun r => by unfold skipP wordT; simp [elsifW, elseW]]
          simp only
          rw [show ∀ r, skipP 1 elseW (wordT elseW :: r) = some r from fun r => by unfold skipP wordT; simp]
          simp only
          rw [hblock _ _ dE hE hl]
          simp only
          rw [hc _ rfl]
    refine ⟨first, ?_⟩
    intro n d c rest hdeep hf hfree hn
    obtain ⟨k, hk, k1, k2⟩ := cmd_kind hf
    obtain ⟨_, hd, hfit, h2⟩ := faultCmd_zero hf
    obtain ⟨n, rfl⟩ : ∃ n', n = n' + 1 := ⟨n - 1, by unfold cmdT at hn; simp at hn; omega⟩
    have hlen : (restT (m + 1) c).length ≤ n := by unfold cmdT at hn; simpa using hn
    have e : cmdT (m + 1) c ++ rest = wordT (wordOf 0 k) :: (restT (m + 1) c ++ rest) := by unfold cmdT; rw [hk]; simp
    unfold cmdP
    rw [e, kind_back 0 d k (by omega) hd k1 k2 (word_ne 0 k (by omega) k1 k2)]
    simp only [thenR]
    by_cases hk2 : k = 2
    · rw [if_pos hk2]
      exact first n d c rest hdeep hf (by rw [hk, hk2]; rfl) hfree hlen
    · rw [if_neg hk2]
      have hk2' : ¬ c.kind = 2 := by rw [hk]; omega
      unfold fitsC at hfit
      by_cases hz : c.kind ≠ 2 ∧ (0 < c.thn.length ∨ 0 < c.els.length ∨ noTst c.test = false)
      · rw [if_pos hz] at hfit; cases hfit
      · rw [if_neg hz] at hfit
        have hz' : c.thn = [] ∧ c.els = [] ∧ c.test = noneT := by
          refine ⟨?_, ?_, ?_⟩
          · cases h : c.thn with
            | nil => rfl
            | cons a b => exact absurd ⟨hk2', .inl (by rw [h]; simp)⟩ hz
          · cases h : c.els with
            | nil => rfl
            | cons a b => exact absurd ⟨hk2', .inr (.inl (by rw [h]; simp))⟩ hz
          · cases h : noTst c.test with
            | true => exact noTst_eq h
            | false => exact absurd ⟨hk2', .inr (.inr h)⟩ hz
        obtain ⟨z1, z2, z3⟩ := hz'
        have hc : ∀ tx, c.texts = tx → c = ⟨k, tx, noneT, [], []⟩ := by intro tx he; cases c; simp at hk z1 z2 z3 he ⊢; simp [hk, z1, z2, z3, he]
        unfold restT
        rw [if_neg hk2']
        rw [hk] at hfit
        by_cases k189 : k = 1 ∨ k = 8 ∨ k = 9
        · rw [if_pos (by omega)] at hfit
          rw [if_pos k189]
          have hp : 0 < c.texts.length := by simpa using hfit
          rw [if_neg (by omega), List.append_assoc, list_back _ _ hp]
          simp only
          rw [show [markT 59] ++ rest = markT 59 :: rest from rfl, take_mark]
          simp only
          rw [hc _ rfl]
        · rw [if_neg (by omega)] at hfit
          rw [if_neg k189]
          by_cases k567 : k = 5 ∨ k = 6 ∨ k = 7
          · rw [if_pos (by omega)] at hfit
            rw [if_pos k567]
            obtain ⟨x, hx⟩ : ∃ x, c.texts = [x] := List.length_eq_one_iff.1 (by simpa using hfit)
            rw [if_neg (by rw [hx]; simp), hx]
            rw [show listT [x] ++ [markT 59] ++ rest = strT x :: (markT 59 :: rest) from rfl, text_str]
            simp only
            rw [take_mark]
            simp only
            rw [hc _ hx]
          · rw [if_neg (by omega)] at hfit
            rw [if_neg k567]
            have hx : c.texts.length = 0 := by simpa using hfit
            rw [if_pos hx]
            rw [show ([] : List Tok) ++ [markT 59] ++ rest = markT 59 :: rest from rfl, take_mark]
            simp only
            rw [hc _ (List.length_eq_zero_iff.1 hx)]
theorem script_loop (f : List Tok → Rdg Cmd) (m d : Nat) : ∀ (l acc : List Cmd) (n : Nat), l.length ≤ n → (∀ x ∈ l, DeepC m x ∧ faultCmd m d x = 0) → (∀ x ∈ l, ∀ r, freeR r → f (cmdT m x ++ r) = .ok (x, r)) → scriptF f n acc (l.flatMap (cmdT m)) = .ok (acc ++ l, []) := by
  intro l
  induction l with
  | nil =>
    intro acc n hn _ _
    cases n with
    | zero => simp [scriptF]
    | succ n => simp [scriptF]
  | cons x l ih =>
    intro acc n hn hv hf
    cases n with
    | zero => simp at hn
    | succ n =>
      have e : (x :: l).flatMap (cmdT m) = cmdT m x ++ l.flatMap (cmdT m) := by simp
      have hi : (cmdT m x ++ l.flatMap (cmdT m)).isEmpty = false := by unfold cmdT; rfl
      have hfr := free_cmds (m := m) (d := d) [] free_nil l fun y hy => hv y (by simp [hy])
      rw [List.append_nil] at hfr
      rw [e, scriptF, hi, if_neg (by simp), hf x (by simp) _ hfr]
      show scriptF f n (acc ++ [x]) _ = _
      rw [ih (acc ++ [x]) n (by simpa using hn) (fun y hy => hv y (by simp [hy])) fun y hy => hf y (by simp [hy])]
      simp
theorem script_back (m : Nat) (l : List Cmd) (hd : ∀ x ∈ l, DeepC m x) (hf : faultCmds m 0 l = 0) : scriptR (cmdsT m l) = .ok (l, []) := by
  have hf' := firstP_all hf
  unfold scriptR
  have h1 := cmds_len m l []
  rw [List.append_nil] at h1
  refine script_loop _ m 0 l [] _ h1 (fun x hx => ⟨hd x hx, hf' x hx⟩) fun x hx r hr => ?_
  have := mem_len (cmdT m) l x hx
  exact (cmd_back m).2 _ 0 x r (hd x hx) (hf' x hx) hr (by unfold cmdsT; omega)

/- What is shown is of tokens that may be. -/
def AllOk (l : List Tok) : Prop := ∀ t ∈ l, faultT t = 0
theorem AllOk.app {a b : List Tok} (h : AllOk a) (k : AllOk b) : AllOk (a ++ b) := fun t ht => by
  rcases List.mem_append.1 ht with e | e
  · exact h t e
  · exact k t e
theorem AllOk.cons {t : Tok} {b : List Tok} (h : faultT t = 0) (k : AllOk b) : AllOk (t :: b) := fun x hx => by
  rcases List.mem_cons.1 hx with e | e
  · rw [e]; exact h
  · exact k x e
theorem allOk_nil : AllOk [] := fun t h => by cases h
theorem AllOk.flat {A : Type} {g : A → List Tok} {l : List A} (h : ∀ x ∈ l, AllOk (g x)) : AllOk (l.flatMap g) := fun t ht => by
  obtain ⟨x, hx, hxt⟩ := List.mem_flatMap.1 ht
  exact h x hx t hxt
theorem AllOk.sep {A : Type} {g : A → List Tok} {l : List A} (h : ∀ x ∈ l, AllOk (g x)) : AllOk (sepT g l) := by
  cases l with
  | nil => exact allOk_nil
  | cons x l => exact AllOk.app (h x (by simp)) (AllOk.flat fun y hy => AllOk.cons (by decide) (h y (by simp [hy])))
theorem str_ok (x : List UInt8) : faultT (strT x) = 0 := rfl
theorem list_ok (l : List (List UInt8)) : AllOk (listT l) := by
  match l with
  | [] => exact AllOk.cons (by decide) (AllOk.app (AllOk.sep fun x hx => by cases hx) (AllOk.cons (by decide) allOk_nil))
  | [x] => exact AllOk.cons (str_ok x) allOk_nil
  | x :: y :: ys => exact AllOk.cons (by decide) (AllOk.app (AllOk.sep fun z _ => AllOk.cons (str_ok z) allOk_nil) (AllOk.cons (by decide) allOk_nil))
theorem wordT_ok (k n : Nat) (hk : k < 2) (h1 : 1 ≤ n) (h2 : n ≤ 10) : faultT (wordT (wordOf k n)) = 0 := by
  match k, hk with
  | 0, _ | 1, _ =>
    match n, h1, h2 with
    | 1, _, _ | 2, _, _ | 3, _, _ | 4, _, _ | 5, _, _ | 6, _, _ | 7, _, _ | 8, _, _ | 9, _, _ | 10, _, _ => decide
theorem tagT_ok (k n : Nat) (hk : 2 ≤ k ∧ k < 4) (h1 : 1 ≤ n) (h2 : n ≤ 3) : faultT (tagT (wordOf k n)) = 0 := by
  match k, hk with
  | 2, _ | 3, _ =>
    match n, h1, h2 with
    | 1, _, _ | 2, _, _ | 3, _, _ => decide
theorem test_ok : ∀ (m d : Nat) (t : Tst), DeepT m t → faultTst m d t = 0 → AllOk (testT m t) := by
  intro m
  induction m with
  | zero => intro d t h; exact h.elim
  | succ m ih =>
    intro d t hdeep hf
    obtain ⟨hnum, hd, hfit, hin⟩ := faultTst_zero hf
    rw [isNum_tst] at hnum
    obtain ⟨k, hk, h1, h2⟩ := kind_of_num hnum
    unfold testT
    unfold fitsT at hfit
    rw [hk] at hfit ⊢
    simp only [Int.toNat_natCast]
    refine AllOk.cons (wordT_ok 1 k (by omega) h1 h2) ?_
    have hall : ∀ x ∈ t.tests, AllOk (testT m x) := fun x hx => ih (d + 1) x (hdeep x hx) (hin x hx)
    by_cases k3 : (k : Int) = 3
    · rw [if_pos k3]
      cases h : t.tests with
      | nil => exact allOk_nil
      | cons x xs => exact hall x (by rw [h]; simp)
    rw [if_neg k3] at hfit ⊢
    by_cases k45 : (k : Int) = 4 ∨ (k : Int) = 5
    · rw [if_pos k45]
      exact AllOk.cons (by decide) (AllOk.app (AllOk.sep hall) (AllOk.cons (by decide) allOk_nil))
    rw [if_neg k45] at hfit ⊢
    by_cases k6 : (k : Int) = 6
    · rw [if_pos k6] at hfit ⊢
      simp [cmpB, isNum_mat] at hfit
      exact AllOk.cons (tagT_ok 2 _ (by omega) (by omega) (by omega)) (AllOk.app (list_ok _) (list_ok _))
    rw [if_neg k6] at hfit ⊢
    by_cases k78 : (k : Int) = 7 ∨ (k : Int) = 8
    · rw [if_pos k78] at hfit ⊢
      simp [cmpB, isNum_mat, isNum_part] at hfit
      exact AllOk.cons (tagT_ok 3 _ (by omega) (by omega) (by omega)) (AllOk.cons (tagT_ok 2 _ (by omega) (by omega) (by omega)) (AllOk.app (list_ok _) (list_ok _)))
    rw [if_neg k78] at hfit ⊢
    by_cases k9 : (k : Int) = 9
    · rw [if_pos k9]
      exact list_ok _
    rw [if_neg k9] at hfit ⊢
    by_cases k10 : (k : Int) = 10
    · rw [if_pos k10] at hfit ⊢
      simp at hfit
      refine AllOk.cons ?_ (AllOk.cons ?_ allOk_nil)
      · cases t.over <;> decide
      · unfold faultT
        rw [if_neg (by simp), if_pos rfl, if_neg (by simp; omega), if_neg (by simp)]
    · rw [if_neg k10]
      exact allOk_nil
theorem cmd_ok : ∀ (m d : Nat) (c : Cmd), DeepC m c → faultCmd m d c = 0 → AllOk (restT m c) ∧ AllOk (cmdT m c) := by
  intro m
  induction m with
  | zero => intro d c h; exact h.elim
  | succ m ih =>
    intro d c hdeep hf
    obtain ⟨k, hk, k1, k2⟩ := cmd_kind hf
    obtain ⟨_, hd, hfit, h2⟩ := faultCmd_zero hf
    have hr : AllOk (restT (m + 1) c) := by
      unfold restT
      by_cases hk2 : c.kind = 2
      · rw [if_pos hk2]
        obtain ⟨hT, hA, hE⟩ := h2 hk2
        obtain ⟨dT, dA, dE⟩ := hdeep
        refine AllOk.app (AllOk.app (test_ok _ _ _ dT hT) (AllOk.app (AllOk.cons (by decide) (AllOk.flat fun x hx => (ih _ x (dA x hx) (hA x hx)).2)) (AllOk.cons (by decide) allOk_nil))) ?_
        cases he : elsifP c.els with
        | some x =>
          rw [he] at hE
          obtain ⟨hx, _⟩ := elsifP_some he
          exact AllOk.cons (by decide) (ih _ x (dE x (by rw [hx]; simp)) hE).1
        | none =>
          rw [he] at hE
          simp only
          by_cases hz : c.els.length = 0
          · rw [if_pos hz]; exact allOk_nil
          · rw [if_neg hz]
            exact AllOk.cons (by decide) (AllOk.app (AllOk.cons (by decide) (AllOk.flat fun x hx => (ih _ x (dE x hx) (hE x hx)).2)) (AllOk.cons (by decide) allOk_nil))
      · rw [if_neg hk2]
        refine AllOk.app ?_ (AllOk.cons (by decide) allOk_nil)
        by_cases hz : c.texts.length = 0
        · rw [if_pos hz]; exact allOk_nil
        · rw [if_neg hz]; exact list_ok _
    refine ⟨hr, ?_⟩
    unfold cmdT
    rw [hk]
    exact AllOk.cons (wordT_ok 0 k (by omega) k1 k2) hr
theorem bad_none : ∀ (l : List Tok) (i : Nat), AllOk l → badTok l i = none := by
  intro l
  induction l with
  | nil => intro i _; rfl
  | cons t l ih =>
    intro i h
    unfold badTok
    rw [if_pos (h t (by simp))]
    exact ih _ fun x hx => h x (by simp [hx])
theorem ok_of_bad : ∀ (l : List Tok) (i : Nat), badTok l i = none → AllOk l := by
  intro l
  induction l with
  | nil => intro i _ t h; cases h
  | cons t l ih =>
    intro i h
    unfold badTok at h
    by_cases ht : faultT t = 0
    · rw [if_pos ht] at h
      exact AllOk.cons ht (ih _ h)
    · rw [if_neg ht] at h; cases h
/-- What may be and is shown is parsed back. -/
theorem parse_back (m : Nat) (l : List Cmd) (hd : ∀ x ∈ l, DeepC m x) (hc : checkM m l = 0) : parseS (cmdsT m l) = (l, 0, 0) := by
  have h0 : faultCmds m 0 l = 0 ∧ (cmdsT m l).length ≤ 400 := by
    unfold checkM at hc
    by_cases h1 : faultCmds m 0 l = 0
    · rw [if_neg (by simpa using h1)] at hc
      by_cases h2 : 400 < (cmdsT m l).length
      · rw [if_pos h2] at hc; cases hc
      · exact ⟨h1, by omega⟩
    · rw [if_pos h1] at hc; exact absurd hc h1
  unfold parseS
  rw [if_neg (by omega), bad_none (cmdsT m l) _ (AllOk.flat fun x hx => (cmd_ok m 0 x (hd x hx) (firstP_all h0.1 x hx)).2)]
  simp only
  rw [script_back m l hd h0.1]
end Go.Proofs.YtnjlakengbhokaaDoor

namespace Go.Proofs.YtnjlakengbhokaaDoor
open Go.RowKit

theorem AllOk.tail {t : Tok} {l : List Tok} (h : AllOk (t :: l)) : AllOk l := fun x hx => h x (by simp [hx])
theorem numIn_some : ∀ (T : List (List UInt8)) (n : Nat) (s : List UInt8), numIn T n s ≠ 0 → n ≤ numIn T n s ∧ T[numIn T n s - n]? = some s := by
  intro T
  induction T with
  | nil => intro n s h; exact absurd rfl h
  | cons x T ih =>
    intro n s h
    unfold numIn at h ⊢
    by_cases hx : x = s
    · rw [if_pos hx] at h ⊢
      refine ⟨Nat.le_refl _, ?_⟩
      rw [Nat.sub_self, hx]
      rfl
    · rw [if_neg hx] at h ⊢
      obtain ⟨a, b⟩ := ih (n + 1) s h
      refine ⟨by omega, ?_⟩
      rw [show numIn T (n + 1) s - n = (numIn T (n + 1) s - (n + 1)) + 1 by omega]
      simpa using b
theorem number_fit {k : Nat} {s : List UInt8} (hk : k < 4) (h : numberP k s ≠ 0) : 1 ≤ numberP k s ∧ numberP k s ≤ 10 ∧ wordOf k (numberP k s) = s ∧ s ≠ [] := by
  obtain ⟨_, b⟩ := numIn_some _ _ _ h
  have hb : (wTabs.getD k [])[numberP k s]? = some s := by simpa [numberP] using b
  have hlen : (wTabs.getD k []).length = 11 := by
    match k, hk with
    | 0, _ | 1, _ | 2, _ | 3, _ => rfl
  have hlt : numberP k s < (wTabs.getD k []).length := (List.getElem?_eq_some_iff.1 hb).1
  refine ⟨by omega, by omega, ?_, ?_⟩
  · unfold wordOf
    rw [List.getD_eq_getElem?_getD, hb]
    rfl
  · intro he
    apply h
    rw [he]
    match k, hk with
    | 0, _ | 1, _ | 2, _ | 3, _ => rfl
theorem number_is {k : Nat} {s : List UInt8} (hk : k < 4) (h : numberP k s ≠ 0) : isNumP k (numberP k s : Nat) = true := by
  obtain ⟨h1, h2, h3, h4⟩ := number_fit hk h
  unfold isNumP
  simp only [Int.toNat_natCast]
  rw [h3]
  have : s.isEmpty = false := by cases s with
    | nil => exact absurd rfl h4
    | cons _ _ => rfl
  rw [this]
  simp
  omega
theorem kind_val {k d n : Nat} {r q : List Tok} (hk : k < 4) (h : kindP k d r = .ok (n, q)) (ha : AllOk r) : d ≤ 6 ∧ isNumP k n = true ∧ 1 ≤ n ∧ n ≤ 10 ∧ AllOk q := by
  obtain ⟨hd, hn, t, rfl, _, ht⟩ := kindP_ok h
  subst ht
  obtain ⟨h1, h2, _⟩ := number_fit hk hn
  exact ⟨hd, number_is hk hn, h1, h2, ha.tail⟩
theorem skip_val {k : Int} {s : List UInt8} {r q : List Tok} (h : skipP k s r = some q) (ha : AllOk r) : AllOk q := by
  obtain ⟨t, rfl, _⟩ := skipP_some h; exact ha.tail
theorem text_val {r q : List Tok} {x : List UInt8} (h : textR r = .ok (x, q)) (ha : AllOk r) : AllOk q := by
  obtain ⟨t, rfl, _⟩ := textR_ok h; exact ha.tail
theorem loop_val {A : Type} {f : List Tok → Rdg A} {P : A → Prop} (hf : ∀ r x q, f r = .ok (x, q) → AllOk r → P x ∧ AllOk q) : ∀ (n : Nat) (acc l : List A) (r q : List Tok), loopF f n acc r = .ok (l, q) → AllOk r → (∀ x ∈ acc, P x) → AllOk q ∧ (∀ x ∈ l, P x) ∧ acc.length ≤ l.length := by
  intro n
  induction n with
  | zero => intro acc l r q h ha hp; cases h; exact ⟨ha, hp, Nat.le_refl _⟩
  | succ n ih =>
    intro acc l r q h ha hp
    unfold loopF at h
    split at h
    · cases h; exact ⟨ha, hp, Nat.le_refl _⟩
    · rename_i q0 hs
      obtain ⟨x, q1, h1, h2⟩ := thenR_ok h
      obtain ⟨px, ok⟩ := hf _ _ _ h1 (skip_val hs ha)
      obtain ⟨a, b, c⟩ := ih _ _ _ _ h2 ok fun y hy => by
        rcases List.mem_append.1 hy with e | e
        · exact hp y e
        · simp at e; rw [e]; exact px
      exact ⟨a, b, by simp at c; omega⟩
theorem list_val {r q : List Tok} {l : List (List UInt8)} (h : listR r = .ok (l, q)) (ha : AllOk r) : 0 < l.length ∧ AllOk q := by
  unfold listR at h
  split at h
  · obtain ⟨x, q1, h1, h2⟩ := thenR_ok h
    cases h2
    exact ⟨by simp, text_val h1 ha⟩
  · rename_i q0 hs
    obtain ⟨x, q1, h1, h2⟩ := thenR_ok h
    obtain ⟨l2, q2, h3, h4⟩ := thenR_ok h2
    obtain ⟨u, q3, h5, h6⟩ := thenR_ok h4
    cases h6
    obtain ⟨a, _, c⟩ := loop_val (P := fun _ => True) (fun _ _ _ h ha => ⟨trivial, text_val h ha⟩) _ _ _ _ _ h3 (text_val h1 (skip_val hs ha)) (fun _ _ => trivial)
    exact ⟨by simp at c; omega, skip_val (takeTP_ok h5) a⟩
theorem tags_val {b : Bool} : ∀ (r : List Tok) (m p : Nat) (x : Nat × Nat) (q : List Tok), tagsF b r m p = .ok (x, q) → AllOk r → (m = 0 ∨ isNumP 2 m = true) → (p = 0 ∨ isNumP 3 p = true) → (b = false → p = 0) → isNumP 2 x.1 = true ∧ (if b then isNumP 3 x.2 = true else x.2 = 0) ∧ AllOk q := by
  have hend : ∀ (m p : Nat), (m = 0 ∨ isNumP 2 m = true) → (p = 0 ∨ isNumP 3 p = true) → (b = false → p = 0) → isNumP 2 ((if m = 0 then 1 else m : Nat) : Int) = true ∧ (if b then isNumP 3 ((if p = 0 ∧ b = true then 1 else p : Nat) : Int) = true else (if p = 0 ∧ b = true then 1 else p : Nat) = 0) := by
    intro m p hm hp hb
    constructor
    · by_cases h : m = 0
      · rw [if_pos h]; rfl
      · rw [if_neg h]; exact hm.resolve_left h
    · cases b with
      | false => simp [hb rfl]
      | true =>
        simp only [if_true, and_true]
        by_cases h : p = 0
        · rw [if_pos h]; rfl
        · rw [if_neg h]; exact hp.resolve_left h
  intro r
  induction r with
  | nil =>
    intro m p x q h ha hm hp hb
    unfold tagsF at h
    cases h
    obtain ⟨a, c⟩ := hend m p hm hp hb
    exact ⟨a, c, ha⟩
  | cons t r ih =>
    intro m p x q h ha hm hp hb
    unfold tagsF at h
    split at h
    · split at h
      · rename_i h2; exact ih _ _ _ _ h ha.tail (.inr (number_is (by omega) h2.1)) hp hb
      · split at h
        · rename_i h3; exact ih _ _ _ _ h ha.tail hm (.inr (number_is (by omega) h3.1)) (fun hf => by rw [hf] at h3; cases h3.2.2)
        · cases h
    · cases h
      obtain ⟨a, c⟩ := hend m p hm hp hb
      exact ⟨a, c, ha⟩
theorem num_val {t : Tok} (h : t.kind = 3) (ha : faultT t = 0) : 0 ≤ t.num ∧ t.num ≤ 2147483647 := by
  unfold faultT at ha
  rw [if_neg (by omega), if_pos h] at ha
  by_cases hr : 0 ≤ t.num ∧ t.num ≤ 2147483647
  · exact hr
  · rw [if_pos hr] at ha; cases ha
theorem bound_val {r q : List Tok} {x : Bool × Int} (h : boundR r = .ok (x, q)) (ha : AllOk r) : 0 ≤ x.2 ∧ x.2 ≤ 2147483647 ∧ AllOk q := by
  unfold boundR at h
  split at h
  · rename_i q0 hs
    obtain ⟨t, q1, h1, h2⟩ := thenR_ok h
    cases h2
    have a := skip_val hs ha
    obtain ⟨rfl, hk⟩ := takeKP_ok h1
    have := num_val hk (a t (by simp))
    exact ⟨this.1, this.2, a.tail⟩
  · obtain ⟨u, q0, h0, h'⟩ := thenR_ok h
    obtain ⟨t, q1, h1, h2⟩ := thenR_ok h'
    cases h2
    have a := skip_val (takeTP_ok h0) ha
    obtain ⟨rfl, hk⟩ := takeKP_ok h1
    have := num_val hk (a t (by simp))
    exact ⟨this.1, this.2, a.tail⟩
/-- What is read is so deep at the most, and may be. -/
def ValT (n d : Nat) (t : Tst) : Prop := DeepT n t ∧ ∀ m, faultTst m d t = 0
def ValC (n d : Nat) (c : Cmd) : Prop := DeepC (n + 1) c ∧ ∀ m, faultCmd m d c = 0
theorem fault_ofV {d : Nat} {t : Tst} (h1 : isNumP 1 t.kind = true) (h2 : d ≤ 6) (h3 : fitsT t = true) (h4 : ∀ x ∈ t.tests, ∀ m, faultTst m (d + 1) x = 0) : ∀ m, faultTst m d t = 0 := by
  intro m
  cases m with
  | zero => rfl
  | succ m =>
    unfold faultTst
    rw [if_pos (oneP_is h1 h2 h3)]
    exact firstP_none fun x hx => h4 x hx m
theorem test_val : ∀ (n d : Nat) (r : List Tok) (t : Tst) (q : List Tok), testP n d r = .ok (t, q) → AllOk r → ValT n d t ∧ AllOk q := by
  intro n
  induction n with
  | zero => intro d r t q h; cases h
  | succ n ih =>
    intro d r t q h ha
    unfold testP at h
    obtain ⟨k, q1, h1, h2⟩ := thenR_ok h
    obtain ⟨hd, hk, k1, k2, a1⟩ := kind_val (by omega) h1 ha
    simp only at h2
    split at h2
    · rename_i e
      obtain ⟨x, q2, h3, h4⟩ := thenR_ok h2
      cases h4
      obtain ⟨⟨dx, fx⟩, a2⟩ := ih _ _ _ _ h3 a1
      refine ⟨⟨fun y hy => ?_, fault_ofV (by subst e; exact hk) hd (by simp [fitsT, noTst, noneT]) fun y hy m => ?_⟩, a2⟩
      · simp at hy; rw [hy]; exact dx
      · simp at hy; rw [hy]; exact fx m
    · rename_i n3
      split at h2
      · rename_i e
        obtain ⟨l, q2, h3, h4⟩ := thenR_ok h2
        cases h4
        obtain ⟨u, p1, g1, g2⟩ := thenR_ok h3
        obtain ⟨x, p2, g3, g4⟩ := thenR_ok g2
        obtain ⟨l', p3, g5, g6⟩ := thenR_ok g4
        obtain ⟨u', p4, g7, g8⟩ := thenR_ok g6
        cases g8
        have b1 := skip_val (takeTP_ok g1) a1
        obtain ⟨vx, b2⟩ := ih _ _ _ _ g3 b1
        obtain ⟨b3, vl, cl⟩ := loop_val (P := fun x => ValT n (d + 1) x) (fun _ _ _ h ha => ih _ _ _ _ h ha) _ _ _ _ _ g5 b2 (fun y hy => by simp at hy; rw [hy]; exact vx)
        refine ⟨⟨fun y hy => (vl y hy).1, fault_ofV hk hd ?_ fun y hy m => (vl y hy).2 m⟩, skip_val (takeTP_ok g7) b3⟩
        simp at cl
        unfold fitsT
        simp only
        rw [if_neg (by omega), if_pos (by omega)]
        simp [noTst, noneT]
        omega
      · rename_i n45
        split at h2
        · rename_i e
          obtain ⟨x, q2, h3, h4⟩ := thenR_ok h2
          obtain ⟨y, q3, h5, h6⟩ := thenR_ok h4
          obtain ⟨z, q4, h7, h8⟩ := thenR_ok h6
          cases h8
          obtain ⟨t1, t2, b1⟩ := tags_val _ _ _ _ _ h3 a1 (.inl rfl) (.inl rfl) (fun _ => rfl)
          obtain ⟨l1, b2⟩ := list_val h5 b1
          obtain ⟨l2, b3⟩ := list_val h7 b2
          refine ⟨⟨fun y hy => by simp [noneT] at hy, fault_ofV hk hd ?_ fun y hy m => by simp [noneT] at hy⟩, b3⟩
          unfold fitsT
          simp only
          rw [if_neg (by omega), if_neg (by omega)]
          by_cases k6 : k = 6
          · subst k6
            simp at t2
            rw [if_pos (by rfl)]
            simp [cmpB, noTst, noneT, t1, l1, l2, t2]
          · simp [k6] at t2
            rw [if_neg (by omega), if_pos (by omega)]
            simp [cmpB, noTst, noneT, t1, l1, l2, t2]
        · rename_i n678
          split at h2
          · rename_i e
            obtain ⟨x, q2, h3, h4⟩ := thenR_ok h2
            cases h4
            obtain ⟨l1, b2⟩ := list_val h3 a1
            refine ⟨⟨fun y hy => by simp [noneT] at hy, fault_ofV (by subst e; exact hk) hd ?_ fun y hy m => by simp [noneT] at hy⟩, b2⟩
            simp [fitsT, noTst, noneT, l1]
          · rename_i n9
            split at h2
            · rename_i e
              obtain ⟨x, q2, h3, h4⟩ := thenR_ok h2
              cases h4
              obtain ⟨l1, l2, b2⟩ := bound_val h3 a1
              refine ⟨⟨fun y hy => by simp [noneT] at hy, fault_ofV (by subst e; exact hk) hd ?_ fun y hy m => by simp [noneT] at hy⟩, b2⟩
              simp [fitsT, noTst, noneT, l1, l2]
            · rename_i n10
              cases h2
              refine ⟨⟨fun y hy => by simp [noneT] at hy, fault_ofV hk hd ?_ fun y hy m => by simp [noneT] at hy⟩, a1⟩
              unfold fitsT
              simp only
              rw [if_neg (by omega), if_neg (by omega), if_neg (by omega), if_neg (by omega), if_neg (by omega), if_neg (by omega)]
              simp [noTst, noneT]
theorem block_val {f : List Tok → Rdg Cmd} {P : Cmd → Prop} (hf : ∀ r x q, f r = .ok (x, q) → AllOk r → P x ∧ AllOk q) : ∀ (n : Nat) (acc l : List Cmd) (r q : List Tok), blockF f n acc r = .ok (l, q) → AllOk r → (∀ x ∈ acc, P x) → AllOk q ∧ ∀ x ∈ l, P x := by
  intro n
  induction n with
  | zero => intro acc l r q h; cases h
  | succ n ih =>
    intro acc l r q h ha hp
    unfold blockF at h
    split at h
    · rename_i q0 hs; cases h; exact ⟨skip_val hs ha, hp⟩
    · split at h
      · cases h
      obtain ⟨x, q1, h1, h2⟩ := thenR_ok h
      obtain ⟨px, ok⟩ := hf _ _ _ h1 ha
      exact ih _ _ _ _ h2 ok fun y hy => by
        rcases List.mem_append.1 hy with e | e
        · exact hp y e
        · simp at e; rw [e]; exact px
theorem blockR_val {f : List Tok → Rdg Cmd} {P : Cmd → Prop} (hf : ∀ r x q, f r = .ok (x, q) → AllOk r → P x ∧ AllOk q) {l : List Cmd} {r q : List Tok} (h : blockR f r = .ok (l, q)) (ha : AllOk r) : AllOk q ∧ ∀ x ∈ l, P x := by
  obtain ⟨u, q1, h1, h2⟩ := thenR_ok h
  exact block_val hf _ _ _ _ _ h2 (skip_val (takeTP_ok h1) ha) fun x hx => by cases hx
theorem noTst_none : noTst noneT = true := rfl
theorem faultC_of {d : Nat} {c : Cmd} (h1 : isNumP 0 c.kind = true) (h2 : d ≤ 6) (h3 : fitsC c = true) (h4 : c.kind = 2 → (∀ m, faultTst m 1 c.test = 0) ∧ (∀ x ∈ c.thn, ∀ m, faultCmd m (d + 1) x = 0) ∧ (match elsifP c.els with | some x => ∀ m, faultCmd m d x = 0 | none => ∀ x ∈ c.els, ∀ m, faultCmd m (d + 1) x = 0)) : ∀ m, faultCmd m d c = 0 := by
  intro m
  cases m with
  | zero => rfl
  | succ m =>
    rw [faultCmd_step, if_neg (by simp [oneP_is h1 h2 h3])]
    by_cases hk : c.kind = 2
    · obtain ⟨a, b, e⟩ := h4 hk
      rw [if_neg (by simpa using hk), if_neg (by simp [a m]), if_neg (by simp [firstP_none fun x hx => b x hx m])]
      cases he : elsifP c.els with
      | some x => rw [he] at e; exact e m
      | none => rw [he] at e; exact firstP_none fun x hx => e x hx m
    · rw [if_pos hk]
theorem firstP_one {A : Type} (f : A → Int) (x : A) : firstP f [x] = f x := by unfold firstP; by_cases h : f x = 0 <;> simp [h, firstP]
theorem cmd_low : ∀ (m d : Nat) (c : Cmd), faultCmd m (d + 1) c = 0 → faultCmd m d c = 0 := by
  intro m
  induction m with
  | zero => intro d c _; rfl
  | succ m ih =>
    intro d c h
    obtain ⟨a, b, e, g⟩ := faultCmd_zero h
    rw [faultCmd_step, if_neg (by simp [oneP_is a (by omega : d ≤ 6) e])]
    by_cases hk : c.kind = 2
    · obtain ⟨g1, g2, g3⟩ := g hk
      rw [if_neg (by simpa using hk), if_neg (by simp [g1]), if_neg (by simp [firstP_none fun x hx => ih (d + 1) x (g2 x hx)])]
      cases he : elsifP c.els with
      | some x => rw [he] at g3; exact ih d x g3
      | none => rw [he] at g3; exact firstP_none fun x hx => ih (d + 1) x (g3 x hx)
    · rw [if_pos hk]
theorem cmdP_two : ∀ (n : Nat) (d : Nat) (r : List Tok) (c : Cmd) (q : List Tok), cmdP n false d r = .ok (c, q) → c.kind = 2 := by
  intro n d r c q h
  cases n with
  | zero => cases h
  | succ n =>
    unfold cmdP at h
    obtain ⟨x, q1, h1, h2⟩ := thenR_ok h
    obtain ⟨y, q2, h3, h4⟩ := thenR_ok h2
    split at h4
    · obtain ⟨z, q3, h5, h6⟩ := thenR_ok h4; cases h6; rfl
    · split at h4
      · obtain ⟨z, q3, h5, h6⟩ := thenR_ok h4; cases h6; rfl
      · cases h4; rfl
theorem cmd_val : ∀ (n : Nat) (b : Bool) (d : Nat) (r : List Tok) (c : Cmd) (q : List Tok), (b = false → d ≤ 6) → cmdP n b d r = .ok (c, q) → AllOk r → ValC n d c ∧ AllOk q := by
  intro n
  induction n with
  | zero => intro b d r c q _ h; cases h
  | succ n ih =>
    intro b d r c q hbd h ha
    cases b with
    | true =>
      unfold cmdP at h
      obtain ⟨k, q1, h1, h2⟩ := thenR_ok h
      obtain ⟨hd, hk, k1, k2, a1⟩ := kind_val (by omega) h1 ha
      split at h2
      · obtain ⟨⟨v1, v2⟩, v3⟩ := ih false d q1 c q (fun _ => hd) h2 a1
        exact ⟨⟨DeepC.more _ _ _ (by omega) v1, v2⟩, v3⟩
      · rename_i n2
        have deep : ∀ l, DeepC (n + 2) ⟨k, l, noneT, [], []⟩ := fun l => ⟨fun x hx => by simp [noneT] at hx, fun x hx => by simp at hx, fun x hx => by simp at hx⟩
        have two : ∀ l : List (List UInt8), ¬ ((k : Int) = 2) := fun _ => by omega
        split at h2
        · rename_i e
          obtain ⟨x, q2, h3, h4⟩ := thenR_ok h2
          obtain ⟨y, q3, h5, h6⟩ := thenR_ok h4
          cases h6
          obtain ⟨l1, b2⟩ := list_val h3 a1
          refine ⟨⟨deep _, faultC_of hk hd ?_ fun hk2 => absurd hk2 (two [])⟩, skip_val (takeTP_ok h5) b2⟩
          unfold fitsC
          rw [if_neg (by simp [noTst_none]), if_pos (by simp only; omega)]
          simpa using l1
        · rename_i n189
          split at h2
          · rename_i e
            obtain ⟨x, q2, h3, h4⟩ := thenR_ok h2
            obtain ⟨y, q3, h5, h6⟩ := thenR_ok h4
            cases h6
            refine ⟨⟨deep _, faultC_of hk hd ?_ fun hk2 => absurd hk2 (two [])⟩, skip_val (takeTP_ok h5) (text_val h3 a1)⟩
            unfold fitsC
            rw [if_neg (by simp [noTst_none]), if_neg (by simp only; omega), if_pos (by simp only; omega)]
            rfl
          · rename_i n567
            obtain ⟨y, q3, h5, h6⟩ := thenR_ok h2
            cases h6
            refine ⟨⟨deep _, faultC_of hk hd ?_ fun hk2 => absurd hk2 (two [])⟩, skip_val (takeTP_ok h5) a1⟩
            unfold fitsC
            rw [if_neg (by simp [noTst_none]), if_neg (by simp only; omega), if_neg (by simp only; omega)]
            rfl
    | false =>
      have hd := hbd rfl
      unfold cmdP at h
      obtain ⟨t, q1, h1, h2⟩ := thenR_ok h
      obtain ⟨th, q2, h3, h4⟩ := thenR_ok h2
      obtain ⟨⟨t1, t2⟩, a1⟩ := test_val _ _ _ _ _ h1 ha
      have hfb : ∀ r x q, cmdP n true (d + 1) r = .ok (x, q) → AllOk r → ValC n (d + 1) x ∧ AllOk q := fun r x q h ha => ih true (d + 1) r x q (fun hf => by cases hf) h ha
      obtain ⟨a2, v2⟩ := blockR_val hfb h3 a1
      have done : ∀ (els : List Cmd), (∀ x ∈ els, DeepC (n + 1) x) → (match elsifP els with | some x => ∀ m, faultCmd m d x = 0 | none => ∀ x ∈ els, ∀ m, faultCmd m (d + 1) x = 0) → ValC (n + 1) d ⟨2, [], t, th, els⟩ := by
        intro els h1 h2
        refine ⟨⟨DeepT.more _ _ _ (by omega) t1, fun x hx => (v2 x hx).1, h1⟩, faultC_of rfl hd (by unfold fitsC; rw [if_neg (by simp), if_neg (by simp), if_neg (by simp)]; rfl) fun _ => ⟨t2, fun x hx m => (v2 x hx).2 m, h2⟩⟩
      split at h4
      · rename_i q0 hs
        obtain ⟨z, q3, h5, h6⟩ := thenR_ok h4
        cases h6
        obtain ⟨⟨z1, z2⟩, a3⟩ := ih false d q0 z q (fun _ => hd) h5 (skip_val hs a2)
        have hz := cmdP_two _ _ _ _ _ h5
        refine ⟨done _ (fun x hx => by simp at hx; rw [hx]; exact z1) ?_, a3⟩
        rw [show elsifP [z] = some z from by simp [elsifP, hz]]
        exact z2
      · split at h4
        · rename_i q0 hs
          obtain ⟨el, q3, h5, h6⟩ := thenR_ok h4
          cases h6
          obtain ⟨a3, v3⟩ := blockR_val hfb h5 (skip_val hs a2)
          refine ⟨done _ (fun x hx => (v3 x hx).1) ?_, a3⟩
          cases he : elsifP el with
          | some x =>
            obtain ⟨hx, _⟩ := elsifP_some he
            exact fun m => cmd_low m d x ((v3 x (by rw [hx]; simp)).2 m)
          | none => exact fun x hx m => (v3 x hx).2 m
        · cases h4
          exact ⟨done _ (fun x hx => by cases hx) (fun x hx => by cases hx), a2⟩

def errN {A : Type} (x : Rdg A) : Prop := ∀ m, x = .error m → m.2 ≠ 0
theorem errN_ok {A : Type} (y : A × List Tok) : errN (.ok y : Rdg A) := fun m h => by cases h
theorem errN_then {A B : Type} {x : Rdg A} {f : A → List Tok → Rdg B} (h : errN x) (k : ∀ a q, x = .ok (a, q) → errN (f a q)) : errN (thenR x f) := by
  intro m hm
  cases hx : x with
  | error e => rw [hx] at hm; cases hm; exact h _ hx
  | ok y => obtain ⟨a, q⟩ := y; rw [hx] at hm; exact k a q hx m hm
theorem misP_ne (r : List Tok) : (misP r).2 ≠ 0 := by unfold misP; simp only; split <;> decide
theorem errN_mis {A : Type} (r : List Tok) : errN (.error (misP r) : Rdg A) := fun m h => by cases h; exact misP_ne r
theorem errN_takeK (k : Int) (r : List Tok) : errN (takeKP k r) := by
  unfold takeKP
  split
  · exact errN_mis _
  · split
    · exact errN_ok _
    · exact errN_mis _
theorem errN_takeT (k : Int) (s : List UInt8) (r : List Tok) : errN (takeTP k s r) := by
  unfold takeTP
  split
  · exact errN_ok _
  · exact errN_mis _
theorem errN_text (r : List Tok) : errN (textR r) := errN_then (errN_takeK _ _) fun _ _ _ => errN_ok _
theorem errN_loop {A : Type} {f : List Tok → Rdg A} {N : Nat} (hf : ∀ r, r.length < N → errN (f r)) (hl : ∀ r x q, f r = .ok (x, q) → q.length ≤ r.length) : ∀ (n : Nat) (acc : List A) (r : List Tok), r.length ≤ N → errN (loopF f n acc r) := by
  intro n
  induction n with
  | zero => intro acc r _; exact errN_ok _
  | succ n ih =>
    intro acc r hr
    unfold loopF
    split
    · exact errN_ok _
    · rename_i q hs
      have := skipP_len hs
      exact errN_then (hf q (by omega)) fun x q' h => ih _ _ (by have := hl _ _ _ h; omega)
theorem errN_list (r : List Tok) : errN (listR r) := by
  unfold listR
  split
  · exact errN_then (errN_text _) fun _ _ _ => errN_ok _
  · exact errN_then (errN_text _) fun x q1 _ => errN_then (errN_loop (N := q1.length + 1) (fun r _ => errN_text r) (fun _ _ _ h => Nat.le_of_lt (textR_len h)) _ _ _ (by omega)) fun _ _ _ => errN_then (errN_takeT _ _ _) fun _ _ _ => errN_ok _
theorem errN_kind (k d : Nat) (r : List Tok) : errN (kindP k d r) := by
  unfold kindP
  split
  · intro m h; cases h; simp
  · split
    · exact errN_mis _
    · split
      · exact errN_ok _
      · exact errN_mis _
theorem errN_tags (b : Bool) : ∀ (r : List Tok) (m p : Nat), errN (tagsF b r m p) := by
  intro r
  induction r with
  | nil => intro m p; unfold tagsF; exact errN_ok _
  | cons t r ih =>
    intro m p
    unfold tagsF
    split
    · split
      · exact ih _ _
      · split
        · exact ih _ _
        · exact errN_mis _
    · exact errN_ok _
theorem errN_bound (r : List Tok) : errN (boundR r) := by
  unfold boundR
  split
  · exact errN_then (errN_takeK _ _) fun _ _ _ => errN_ok _
  · exact errN_then (errN_takeT _ _ _) fun _ _ _ => errN_then (errN_takeK _ _) fun _ _ _ => errN_ok _
theorem errN_test : ∀ (n d : Nat) (r : List Tok), r.length < n → errN (testP n d r) := by
  intro n
  induction n with
  | zero => intro d r h; omega
  | succ n ih =>
    intro d r hr
    unfold testP
    refine errN_then (errN_kind _ _ _) fun k q hk => ?_
    have hq := kindP_len hk
    split
    · exact errN_then (ih _ _ (by omega)) fun _ _ _ => errN_ok _
    · split
      · refine errN_then ?_ fun _ _ _ => errN_ok _
        unfold testsR
        refine errN_then (errN_takeT _ _ _) fun u q1 h1 => ?_
        have l1 := skipP_len (takeTP_ok h1)
        refine errN_then (ih _ _ (by omega)) fun x q2 h2 => ?_
        have l2 := testP_len _ _ _ _ _ h2
        exact errN_then (errN_loop (N := n) (fun r hr => ih _ r hr) (fun _ _ _ h => Nat.le_of_lt (testP_len _ _ _ _ _ h)) _ _ _ (by omega)) fun _ _ _ => errN_then (errN_takeT _ _ _) fun _ _ _ => errN_ok _
      · split
        · exact errN_then (errN_tags _ _ _ _) fun _ _ _ => errN_then (errN_list _) fun _ _ _ => errN_then (errN_list _) fun _ _ _ => errN_ok _
        · split
          · exact errN_then (errN_list _) fun _ _ _ => errN_ok _
          · split
            · exact errN_then (errN_bound _) fun _ _ _ => errN_ok _
            · exact errN_ok _
theorem errN_block {f : List Tok → Rdg Cmd} {N : Nat} (hf : ∀ r, r.length < N → errN (f r)) (hl : ∀ r x q, f r = .ok (x, q) → q.length < r.length) : ∀ (n : Nat) (acc : List Cmd) (r : List Tok), r.length < N → r.length < n → errN (blockF f n acc r) := by
  intro n
  induction n with
  | zero => intro acc r _ h; omega
  | succ n ih =>
    intro acc r hr hn
    unfold blockF
    split
    · exact errN_ok _
    · split
      · exact errN_mis _
      · exact errN_then (hf r hr) fun x q' h => by
          have := hl _ _ _ h
          exact ih _ _ (by omega) (by omega)
theorem errN_blockR {f : List Tok → Rdg Cmd} {N : Nat} (hf : ∀ r, r.length < N → errN (f r)) (hl : ∀ r x q, f r = .ok (x, q) → q.length < r.length) (r : List Tok) (hr : r.length ≤ N) : errN (blockR f r) :=
  errN_then (errN_takeT _ _ _) fun u q h => by
    have := skipP_len (takeTP_ok h)
    exact errN_block hf hl _ _ _ (by omega) (by omega)
theorem errN_cmd : ∀ (n : Nat) (b : Bool) (d : Nat) (r : List Tok), r.length + 1 < n → errN (cmdP n b d r) := by
  intro n
  induction n with
  | zero => intro b d r h; omega
  | succ n ih =>
    intro b d r hr
    have hb : ∀ r, r.length < n - 1 → errN (cmdP n true (d + 1) r) := fun r hr => ih true (d + 1) r (by omega)
    have hl : ∀ r x q, cmdP n true (d + 1) r = .ok (x, q) → q.length < r.length := fun r x q h => cmdP_len _ _ _ _ _ _ h
    cases b with
    | true =>
      unfold cmdP
      refine errN_then (errN_kind _ _ _) fun k q hk => ?_
      have hq := kindP_len hk
      split
      · exact ih _ _ _ (by omega)
      · split
        · exact errN_then (errN_list _) fun _ _ _ => errN_then (errN_takeT _ _ _) fun _ _ _ => errN_ok _
        · split
          · exact errN_then (errN_text _) fun _ _ _ => errN_then (errN_takeT _ _ _) fun _ _ _ => errN_ok _
          · exact errN_then (errN_takeT _ _ _) fun _ _ _ => errN_ok _
    | false =>
      unfold cmdP
      refine errN_then (errN_test _ _ _ (by omega)) fun t q1 h1 => ?_
      have l1 := testP_len _ _ _ _ _ h1
      refine errN_then (errN_blockR hb hl _ (by omega)) fun th q2 h2 => ?_
      have l2 := blockR_len (fun _ _ _ h => Nat.le_of_lt (hl _ _ _ h)) h2
      split
      · rename_i q3 hs
        have := skipP_len hs
        exact errN_then (ih _ _ _ (by omega)) fun _ _ _ => errN_ok _
      · split
        · rename_i q3 hs
          have := skipP_len hs
          exact errN_then (errN_blockR hb hl _ (by omega)) fun _ _ _ => errN_ok _
        · exact errN_ok _
theorem errN_script (l : List Tok) : errN (scriptR l) := by
  have : ∀ (n : Nat) (acc : List Cmd) (r : List Tok), r.length ≤ l.length → errN (scriptF (cmdP (l.length + 2) true 0) n acc r) := by
    intro n
    induction n with
    | zero => intro acc r _; exact errN_ok _
    | succ n ih =>
      intro acc r hr
      unfold scriptF
      split
      · exact errN_ok _
      · exact errN_then (errN_cmd _ _ _ _ (by omega)) fun x q h => by
          have := cmdP_len _ _ _ _ _ _ h
          exact ih _ _ (by omega)
  exact this _ _ _ (Nat.le_refl _)
theorem err_ne {l : List Tok} {m : Nat × Int} (h : scriptR l = .error m) : m.2 ≠ 0 := errN_script l m h

/-- A word or tag is short. -/
def shortT (t : Tok) : Prop := t.kind = 1 ∨ t.kind = 2 → t.text.length ≤ 16
def AllS (l : List Tok) : Prop := ∀ t ∈ l, shortT t
theorem AllS.app {a b : List Tok} (h : AllS a) (k : AllS b) : AllS (a ++ b) := fun t ht => by
  rcases List.mem_append.1 ht with e | e
  · exact h t e
  · exact k t e
theorem AllS.cons {t : Tok} {b : List Tok} (h : shortT t) (k : AllS b) : AllS (t :: b) := fun x hx => by
  rcases List.mem_cons.1 hx with e | e
  · rw [e]; exact h
  · exact k x e
theorem allS_nil : AllS [] := fun t h => by cases h
theorem AllS.flat {A : Type} {g : A → List Tok} {l : List A} (h : ∀ x ∈ l, AllS (g x)) : AllS (l.flatMap g) := fun t ht => by
  obtain ⟨x, hx, hxt⟩ := List.mem_flatMap.1 ht
  exact h x hx t hxt
theorem AllS.sep {A : Type} {g : A → List Tok} {l : List A} (h : ∀ x ∈ l, AllS (g x)) : AllS (sepT g l) := by
  cases l with
  | nil => exact allS_nil
  | cons x l => exact AllS.app (h x (by simp)) (AllS.flat fun y hy => AllS.cons (fun _ => by decide) (h y (by simp [hy])))
theorem str_sh (x : List UInt8) : shortT (strT x) := fun h => by rcases h with h | h <;> exact absurd h (show ¬ ((4 : Int) = _) by decide)
theorem list_sh (l : List (List UInt8)) : AllS (listT l) := by
  match l with
  | [] => exact AllS.cons (fun _ => by decide) (AllS.app (AllS.sep fun x hx => by cases hx) (AllS.cons (fun _ => by decide) allS_nil))
  | [x] => exact AllS.cons (str_sh x) allS_nil
  | x :: y :: ys => exact AllS.cons (fun _ => by decide) (AllS.app (AllS.sep fun z _ => AllS.cons (str_sh z) allS_nil) (AllS.cons (fun _ => by decide) allS_nil))
theorem wordT_sh (k n : Nat) (hk : k < 2) (h1 : 1 ≤ n) (h2 : n ≤ 10) : shortT (wordT (wordOf k n)) := by
  match k, hk with
  | 0, _ | 1, _ =>
    match n, h1, h2 with
    | 1, _, _ | 2, _, _ | 3, _, _ | 4, _, _ | 5, _, _ | 6, _, _ | 7, _, _ | 8, _, _ | 9, _, _ | 10, _, _ => exact fun _ => by decide
theorem tagT_sh (k n : Nat) (hk : 2 ≤ k ∧ k < 4) (h1 : 1 ≤ n) (h2 : n ≤ 3) : shortT (tagT (wordOf k n)) := by
  match k, hk with
  | 2, _ | 3, _ =>
    match n, h1, h2 with
    | 1, _, _ | 2, _, _ | 3, _, _ => exact fun _ => by decide
theorem test_sh : ∀ (m d : Nat) (t : Tst), DeepT m t → faultTst m d t = 0 → AllS (testT m t) := by
  intro m
  induction m with
  | zero => intro d t h; exact h.elim
  | succ m ih =>
    intro d t hdeep hf
    obtain ⟨hnum, hd, hfit, hin⟩ := faultTst_zero hf
    rw [isNum_tst] at hnum
    obtain ⟨k, hk, h1, h2⟩ := kind_of_num hnum
    unfold testT
    unfold fitsT at hfit
    rw [hk] at hfit ⊢
    simp only [Int.toNat_natCast]
    refine AllS.cons (wordT_sh 1 k (by omega) h1 h2) ?_
    have hall : ∀ x ∈ t.tests, AllS (testT m x) := fun x hx => ih (d + 1) x (hdeep x hx) (hin x hx)
    by_cases k3 : (k : Int) = 3
    · rw [if_pos k3]
      cases h : t.tests with
      | nil => exact allS_nil
      | cons x xs => exact hall x (by rw [h]; simp)
    rw [if_neg k3] at hfit ⊢
    by_cases k45 : (k : Int) = 4 ∨ (k : Int) = 5
    · rw [if_pos k45]
      exact AllS.cons (fun _ => by decide) (AllS.app (AllS.sep hall) (AllS.cons (fun _ => by decide) allS_nil))
    rw [if_neg k45] at hfit ⊢
    by_cases k6 : (k : Int) = 6
    · rw [if_pos k6] at hfit ⊢
      simp [cmpB, isNum_mat] at hfit
      exact AllS.cons (tagT_sh 2 _ (by omega) (by omega) (by omega)) (AllS.app (list_sh _) (list_sh _))
    rw [if_neg k6] at hfit ⊢
    by_cases k78 : (k : Int) = 7 ∨ (k : Int) = 8
    · rw [if_pos k78] at hfit ⊢
      simp [cmpB, isNum_mat, isNum_part] at hfit
      exact AllS.cons (tagT_sh 3 _ (by omega) (by omega) (by omega)) (AllS.cons (tagT_sh 2 _ (by omega) (by omega) (by omega)) (AllS.app (list_sh _) (list_sh _)))
    rw [if_neg k78] at hfit ⊢
    by_cases k9 : (k : Int) = 9
    · rw [if_pos k9]
      exact list_sh _
    rw [if_neg k9] at hfit ⊢
    by_cases k10 : (k : Int) = 10
    · rw [if_pos k10] at hfit ⊢
      simp at hfit
      refine AllS.cons ?_ (AllS.cons ?_ allS_nil)
      · intro _; cases t.over <;> decide
      · exact fun h => by rcases h with h | h <;> exact absurd h (show ¬ ((3 : Int) = _) by decide)
    · rw [if_neg k10]
      exact allS_nil
theorem cmd_sh : ∀ (m d : Nat) (c : Cmd), DeepC m c → faultCmd m d c = 0 → AllS (restT m c) ∧ AllS (cmdT m c) := by
  intro m
  induction m with
  | zero => intro d c h; exact h.elim
  | succ m ih =>
    intro d c hdeep hf
    obtain ⟨k, hk, k1, k2⟩ := cmd_kind hf
    obtain ⟨_, hd, hfit, h2⟩ := faultCmd_zero hf
    have hr : AllS (restT (m + 1) c) := by
      unfold restT
      by_cases hk2 : c.kind = 2
      · rw [if_pos hk2]
        obtain ⟨hT, hA, hE⟩ := h2 hk2
        obtain ⟨dT, dA, dE⟩ := hdeep
        refine AllS.app (AllS.app (test_sh _ _ _ dT hT) (AllS.app (AllS.cons (fun _ => by decide) (AllS.flat fun x hx => (ih _ x (dA x hx) (hA x hx)).2)) (AllS.cons (fun _ => by decide) allS_nil))) ?_
        cases he : elsifP c.els with
        | some x =>
          rw [he] at hE
          obtain ⟨hx, _⟩ := elsifP_some he
          exact AllS.cons (fun _ => by decide) (ih _ x (dE x (by rw [hx]; simp)) hE).1
        | none =>
          rw [he] at hE
          simp only
          by_cases hz : c.els.length = 0
          · rw [if_pos hz]; exact allS_nil
          · rw [if_neg hz]
            exact AllS.cons (fun _ => by decide) (AllS.app (AllS.cons (fun _ => by decide) (AllS.flat fun x hx => (ih _ x (dE x hx) (hE x hx)).2)) (AllS.cons (fun _ => by decide) allS_nil))
      · rw [if_neg hk2]
        refine AllS.app ?_ (AllS.cons (fun _ => by decide) allS_nil)
        by_cases hz : c.texts.length = 0
        · rw [if_pos hz]; exact allS_nil
        · rw [if_neg hz]; exact list_sh _
    refine ⟨hr, ?_⟩
    unfold cmdT
    rw [hk]
    exact AllS.cons (wordT_sh 0 k (by omega) k1 k2) hr
theorem shown_short {m : Nat} {l : List Cmd} (hd : ∀ x ∈ l, DeepC m x) (hf : faultCmds m 0 l = 0) : AllS (cmdsT m l) := AllS.flat fun x hx => (cmd_sh m 0 x (hd x hx) (firstP_all hf x hx)).2
/-- What is parsed with no fault, may be. -/
theorem parse_val {l : List Tok} {cs : List Cmd} {i : Int} (h : parseS l = (cs, i, 0)) : i = 0 ∧ scriptR l = .ok (cs, []) ∧ AllOk l ∧ l.length ≤ 400 ∧ ∀ x ∈ cs, DeepC (l.length + 3) x ∧ ∀ m, faultCmd m 0 x = 0 := by
  unfold parseS at h
  by_cases hl : 400 < l.length
  · rw [if_pos hl] at h; cases h
  · rw [if_neg hl] at h
    cases hb : badTok l 0 with
    | some y =>
      obtain ⟨j, e⟩ := y
      rw [hb] at h
      simp only [Prod.mk.injEq] at h
      exfalso
      have : ∀ (l : List Tok) (i j : Nat) (e : Int), badTok l i = some (j, e) → e ≠ 0 := by
        intro l
        induction l with
        | nil => intro i j e h; cases h
        | cons t l ih =>
          intro i j e h
          unfold badTok at h
          by_cases ht : faultT t = 0
          · rw [if_pos ht] at h; exact ih _ _ _ h
          · rw [if_neg ht] at h; cases h; exact ht
      exact this _ _ _ _ hb h.2.2
    | none =>
      rw [hb] at h
      simp only at h
      have hall := ok_of_bad _ _ hb
      have hloop : ∀ (n : Nat) (acc r' : List Cmd) (r q : List Tok), scriptF (cmdP (l.length + 2) true 0) n acc r = .ok (r', q) → AllOk r → r.length ≤ n → (∀ x ∈ acc, ValC (l.length + 2) 0 x) → q = [] ∧ ∀ x ∈ r', ValC (l.length + 2) 0 x := by
        intro n
        induction n with
        | zero =>
          intro acc r' r q h ha hr hv
          cases h
          exact ⟨List.length_eq_zero_iff.1 (by omega), hv⟩
        | succ n ih =>
          intro acc r' r q h ha hr hv
          unfold scriptF at h
          split at h
          · rename_i he
            cases h
            exact ⟨by simpa using he, hv⟩
          · obtain ⟨x, q1, h1, h2⟩ := thenR_ok h
            obtain ⟨vx, a1⟩ := cmd_val _ _ _ _ _ _ (fun hf => by cases hf) h1 ha
            have := cmdP_len _ _ _ _ _ _ h1
            refine ih _ _ _ _ h2 a1 (by omega) fun y hy => ?_
            rcases List.mem_append.1 hy with e | e
            · exact hv y e
            · simp at e; rw [e]; exact vx
      cases hs : scriptR l with
      | error m =>
        rw [hs] at h
        simp only [Prod.mk.injEq] at h
        exfalso
        exact err_ne hs h.2.2
      | ok y =>
        obtain ⟨c, q⟩ := y
        rw [hs] at h
        simp only [Prod.mk.injEq] at h
        obtain ⟨rfl, rfl, _⟩ := h
        obtain ⟨rfl, hv⟩ := hloop _ _ _ _ _ hs hall (Nat.le_refl _) (fun x hx => by cases hx)
        exact ⟨rfl, rfl, hall, by omega, fun x hx => ⟨(hv x hx).1, (hv x hx).2⟩⟩
end Go.Proofs.YtnjlakengbhokaaDoor

namespace Go.Proofs.YtnjlakengbhokaaDoor
open Go.RowKit

theorem row_mem {A : Type} {Q : Nat → Prop} {k : Nat} {P : A → List Value → Prop} {w : World} {v : Value} {l : List A} (h : RowM Q k P w v l) {x : A} (hx : x ∈ l) : ∃ cs, P x cs := by
  obtain ⟨_, _, _, _, hr⟩ := h
  obtain ⟨i, hi, rfl⟩ := List.getElem_of_mem hx
  obtain ⟨_, _, cs, _, _, _, _, _, hP⟩ := hr i _ (List.getElem?_eq_getElem hi)
  exact ⟨cs, hP⟩
theorem deep_tst {Q : Nat → Prop} {w : World} : ∀ (n : Nat) (t : Tst) (cs : List Value), TstM Q n w t cs → DeepT n t := by
  intro n
  induction n with
  | zero => intro t cs h; exact h
  | succ n ih =>
    intro t cs h x hx
    obtain ⟨_, _, _, _, _, _, h3⟩ := h
    obtain ⟨cs', h'⟩ := row_mem h3 hx
    exact ih _ _ h'
theorem deep_cmd {Q : Nat → Prop} {w : World} : ∀ (n : Nat) (c : Cmd) (cs : List Value), CmdM Q n w c cs → DeepC n c := by
  intro n
  induction n with
  | zero => intro c cs h; exact h
  | succ n ih =>
    intro c cs h
    obtain ⟨_, _, _, _, _, _, _, _, h2, h3, h4⟩ := h
    refine ⟨deep_tst _ _ _ h2, fun x hx => ?_, fun x hx => ?_⟩
    · obtain ⟨cs', h'⟩ := row_mem h3 hx
      exact ih _ _ h'
    · obtain ⟨cs', h'⟩ := row_mem h4 hx
      exact ih _ _ h'
theorem deep_cmds {Q : Nat → Prop} {n : Nat} {w : World} {v : Value} {l : List Cmd} (h : CmdsM Q n w v l) : ∀ x ∈ l, DeepC n x := fun x hx => by
  obtain ⟨cs, h'⟩ := row_mem h hx
  exact deep_cmd _ _ _ h'
end Go.Proofs.YtnjlakengbhokaaDoor
