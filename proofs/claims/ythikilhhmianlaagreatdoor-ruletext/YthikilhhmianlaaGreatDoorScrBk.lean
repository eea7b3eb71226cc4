/-
  Plain facts on scripts: what may be, once shown, is read back. No program is named here.
  Plain facts on scripts: what is read may be; where reading gives up it says why; what is shown has short words alone. No program is named here.
  What lies in memory is so deep at the most. No function of the program is named here.
-/
import Derived.Test.YthikilhhmianlaaGreatDoorQPure4
namespace Go.Proofs.YthikilhhmianlaaGreatDoor
open Go.RowKit
theorem jaP (c : UInt8) (r : List Tok) : za 5 [c] (jx c :: r) = some r := by unfold za jx; simp
theorem jaZ {c e : UInt8} (h : e ≠ c) (r : List Tok) : za 5 [c] (jx e :: r) = none := by unfold za jx; simp [h]
theorem ji1 (c : UInt8) (x : List UInt8) (r : List Tok) : za 5 [c] (strT x :: r) = none := by unfold za strT; simp
theorem jbG (x : List UInt8) (r : List Tok) : zW (strT x :: r) = .ok (x, r) := by unfold zW qi strT jv; simp
theorem qc (c : UInt8) (r : List Tok) : jK 5 [c] (jx c :: r) = .ok ((), r) := by unfold jK; rw [jaP]
theorem jb3 {A : Type} (f : List Tok → Rdg A) (g : A → List Tok) (tail : List Tok) (ht : za 5 [44] tail = none) : ∀ (ys acc : List A) (m : Nat), ys.length ≤ m → (∀ y ∈ ys, ∀ rest, f (g y ++ rest) = .ok (y, rest)) → qo f m acc ((ys.flatMap fun y => jx 44 :: g y) ++ tail) = .ok (acc ++ ys, tail) := by
  intro ys
  induction ys with
  | nil =>
    intro acc m _ _; simp only [List.flatMap_nil, List.nil_append, List.append_nil]; cases m with
    | zero => rfl
    | succ m => unfold qo; rw [ht]
  | cons y ys ih =>
    intro acc m hm hf; cases m with
    | zero => simp at hm
    | succ m =>
      have e : ((y :: ys).flatMap fun y => jx 44 :: g y) ++ tail = jx 44 :: (g y ++ ((ys.flatMap fun y => jx 44 :: g y) ++ tail)) := by simp [List.append_assoc]
      rw [e, qo, jaP]; simp only; rw [hf y (by simp)]
      show qo f m (acc ++ [y]) _ = _
      rw [ih (acc ++ [y]) m (by simpa using hm) fun z hz => hf z (by simp [hz])]
      simp
theorem jdh {A : Type} (g : A → List Tok) (tail : List Tok) (ys : List A) : ys.length ≤ ((ys.flatMap fun y => jx 44 :: g y) ++ tail).length := by
  induction ys with
  | nil => simp
  | cons y ys ih => simp only [List.flatMap_cons, List.length_append, List.length_cons] at ih ⊢; omega
theorem qt (l : List (List UInt8)) (r : List Tok) (h : 0 < l.length) : zd (vg l ++ r) = .ok (l, r) := by
  match l, h with
  | [x], _ =>
    show zd (strT x :: r) = _
    unfold zd; rw [ji1]; simp only; rw [jbG]; rfl
  | x :: y :: ys, _ =>
    have e : vg (x :: y :: ys) ++ r = jx 91 :: (strT x :: (((y :: ys).flatMap fun z => jx 44 :: [strT z]) ++ (jx 93 :: r))) := by
      show jx 91 :: (sepT (fun x => [strT x]) (x :: y :: ys) ++ [jx 93]) ++ r = _
      simp [sepT, List.append_assoc]
    rw [e]; unfold zd; rw [jaP]; simp only; rw [jbG]
    show jv (qo zW _ [x] _) _ = _
    rw [jb3 zW (fun z => [strT z]) (jx 93 :: r) (jaZ (by decide) r) (y :: ys) [x] _ (jdh _ _ _) fun z _ rest => jbG z rest]
    show jv (.ok _) _ = _
    unfold jv; simp only; rw [qc]; rfl
theorem vv (k n : Nat) (hk : k < 4) (h1 : 1 ≤ n) (h2 : n ≤ 10) (hw : ju k n ≠ []) : jE k (ju k n) = n := by
  match k, hk with
  | 0, _ | 1, _ | 2, _ | 3, _ =>
    match n, h1, h2, hw with
    | 1, _, _, hw | 2, _, _, hw | 3, _, _, hw | 4, _, _, hw | 5, _, _, hw | 6, _, _, hw | 7, _, _, hw | 8, _, _, hw | 9, _, _, hw | 10, _, _, hw => first | rfl | exact absurd rfl hw
theorem jdD (k d n : Nat) (hk : k < 4) (hd : d ≤ 6) (h1 : 1 ≤ n) (h2 : n ≤ 10) (hw : ju k n ≠ []) (r : List Tok) : qW k d (zz (ju k n) :: r) = .ok (n, r) := by
  unfold qW; rw [if_neg (by omega)]; simp only; rw [show (zz (ju k n)).text = ju k n from rfl, vv k n hk h1 h2 hw, if_pos ⟨rfl, by omega⟩]
theorem DeepT.more : ∀ (n m : Nat) (t : Tst), n ≤ m → DeepT n t → DeepT m t := by
  intro n
  induction n with
  | zero => intro m t _ h; exact h.elim
  | succ n ih =>
    intro m t hm h; cases m with
    | zero => omega
    | succ m => exact fun x hx => ih m x (by omega) (h x hx)
theorem DeepC.more : ∀ (n m : Nat) (t : Cmd), n ≤ m → DeepC n t → DeepC m t := by
  intro n
  induction n with
  | zero => intro m t _ h; exact h.elim
  | succ n ih =>
    intro m t hm h; cases m with
    | zero => omega
    | succ m => exact ⟨DeepT.more _ _ _ (by omega) h.1, fun x hx => ih m x (by omega) (h.2.1 x hx), fun x hx => ih m x (by omega) (h.2.2 x hx)⟩
theorem vo {A : Type} {f : A → Int} : ∀ {l : List A}, jw f l = 0 → ∀ x ∈ l, f x = 0 := by
  intro l
  induction l with
  | nil => intro _ x hx; cases hx
  | cons y l ih =>
    intro h x hx; unfold jw at h
    by_cases hy : f y = 0
    · rw [if_pos hy] at h
      rcases List.mem_cons.1 hx with e | e
      · rw [e]; exact hy
      · exact ih h x e
    · rw [if_neg hy] at h; exact absurd h hy
theorem qO {A : Type} {f : A → Int} : ∀ {l : List A}, (∀ x ∈ l, f x = 0) → jw f l = 0 := by
  intro l
  induction l with
  | nil => intro _; rfl
  | cons y l ih =>
    intro h; unfold jw; rw [if_pos (h y (by simp))]; exact ih fun x hx => h x (by simp [hx])
theorem jeh {k : Bool} {d : Nat} {f : Bool} (h : oneP k d f = 0) : k = true ∧ d ≤ 6 ∧ f = true := by
  unfold oneP at h; cases k with
  | false => simp at h
  | true =>
    rw [if_neg (by simp)] at h
    by_cases hd : 6 < d
    · rw [if_pos hd] at h; cases h
    · rw [if_neg hd] at h; cases f with
      | false => simp at h
      | true => exact ⟨rfl, by omega, rfl⟩
theorem jeJ {k : Bool} {d : Nat} {f : Bool} (hk : k = true) (hd : d ≤ 6) (hf : f = true) : oneP k d f = 0 := by
  subst hk hf; unfold oneP; rw [if_neg (by simp), if_neg (by omega), if_neg (by simp)]
theorem qb {t : Tst} (h : qz t = true) : t = jG := by
  obtain ⟨a, b, c, d, e, f, g, i⟩ := t
  simp [qz] at h
  obtain ⟨⟨⟨⟨⟨⟨⟨rfl, rfl⟩, rfl⟩, rfl⟩, rfl⟩, rfl⟩, rfl⟩, rfl⟩ := h; rfl
theorem jaz {n : Int} (h : (decide (1 ≤ n) && decide (n ≤ 10)) = true) : ∃ k : Nat, n = (k : Int) ∧ 1 ≤ k ∧ k ≤ 10 := by
  simp at h
  exact ⟨n.toNat, by omega, by omega, by omega⟩
theorem jaN {n d : Nat} {t : Tst} (h : jt (n + 1) d t = 0) : jP 1 t.kind = true ∧ d ≤ 6 ∧ qw t = true ∧ ∀ x ∈ t.tests, jt n (d + 1) x = 0 := by
  unfold jt at h
  by_cases h1 : oneP (jP 1 t.kind) d (qw t) = 0
  · rw [if_pos h1] at h; obtain ⟨a, b, c⟩ := jeh h1; exact ⟨a, b, c, vo h⟩
  · rw [if_neg h1] at h; exact absurd h h1
theorem jht {k : Nat} (h1 : 1 ≤ k) (h2 : k ≤ 10) : k = 1 ∨ k = 2 ∨ k = 3 ∨ k = 4 ∨ k = 5 ∨ k = 6 ∨ k = 7 ∨ k = 8 ∨ k = 9 ∨ k = 10 := by omega
theorem jhd (k n : Nat) (hk : k < 2) (h1 : 1 ≤ n) (h2 : n ≤ 10) : ju k n ≠ [] := by
  match k, hk with
  | 0, _ | 1, _ =>
    match n, h1, h2 with
    | 1, _, _ | 2, _, _ | 3, _, _ | 4, _, _ | 5, _, _ | 6, _, _ | 7, _, _ | 8, _, _ | 9, _, _ | 10, _, _ => decide
theorem jdd (k n : Nat) (hk : 2 ≤ k ∧ k < 4) (h1 : 1 ≤ n) (h2 : n ≤ 3) : ju k n ≠ [] := by
  match k, hk with
  | 2, _ | 3, _ =>
    match n, h1, h2 with
    | 1, _, _ | 2, _, _ | 3, _, _ => decide
theorem jfy {A : Type} (g : A → List Tok) : ∀ (l : List A) (x : A), x ∈ l → (g x).length ≤ (sepT g l).length := by
  intro l x hx; cases l with
  | nil => cases hx
  | cons y l =>
    show _ ≤ (g y ++ l.flatMap fun y => jx 44 :: g y).length
    rw [List.length_append]
    rcases List.mem_cons.1 hx with rfl | e
    · omega
    · have : (g x).length ≤ (l.flatMap fun y => jx 44 :: g y).length := by
        clear hx
        induction l with
        | nil => cases e
        | cons z l ih =>
          simp only [List.flatMap_cons, List.length_append, List.length_cons]
          rcases List.mem_cons.1 e with rfl | e
          · omega
          · have := ih e; omega
      omega
theorem jjM {b : Bool} {t : Tok} {q : List Tok} {p : Nat} (hk : t.kind = 2) (h : jE 2 t.text ≠ 0) : zi b (t :: q) 0 p = zi b q (jE 2 t.text) p := by
  rw [zi]; simp [hk, h]
theorem jkx {t : Tok} {q : List Tok} {m : Nat} (hk : t.kind = 2) (h2 : jE 2 t.text = 0) (h3 : jE 3 t.text ≠ 0) : zi true (t :: q) m 0 = zi true q m (jE 3 t.text) := by
  rw [zi]; simp [hk, h2, h3]
theorem jfs (m p : Nat) (hm : 1 ≤ m ∧ m ≤ 3) (hp : 1 ≤ p ∧ p ≤ 3) (r : List Tok) (hr : ∀ t q, r = t :: q → t.kind ≠ 2) : zi true (tagT (ju 3 p) :: tagT (ju 2 m) :: r) 0 0 = .ok ((m, p), r) := by
  have hend : zi true r m p = .ok ((m, p), r) := by
    cases r with
    | nil => unfold zi; rw [if_neg (by omega), if_neg (by omega)]
    | cons t q => unfold zi; rw [if_neg (hr t q rfl), if_neg (by omega), if_neg (by omega)]
  have h2 : jE 2 (ju 3 p) = 0 := by
    obtain ⟨h1, h2⟩ := hp
    match p, h1, h2 with
    | 1, _, _ | 2, _, _ | 3, _, _ => rfl
  have h3 : jE 3 (ju 3 p) = p := vv 3 p (by omega) hp.1 (by omega) (jdd 3 p (by omega) hp.1 hp.2); have h4 : jE 2 (ju 2 m) = m := vv 2 m (by omega) hm.1 (by omega) (jdd 2 m (by omega) hm.1 hm.2); rw [jkx rfl h2 (by rw [show (tagT (ju 3 p)).text = ju 3 p from rfl, h3]; omega), jjM rfl (by rw [show (tagT (ju 2 m)).text = ju 2 m from rfl, h4]; omega)]; rw [show (tagT (ju 2 m)).text = ju 2 m from rfl, show (tagT (ju 3 p)).text = ju 3 p from rfl, h3, h4, hend]
theorem ji8 (m : Nat) (hm : 1 ≤ m ∧ m ≤ 3) (r : List Tok) (hr : ∀ t q, r = t :: q → t.kind ≠ 2) : zi false (tagT (ju 2 m) :: r) 0 0 = .ok ((m, 0), r) := by
  have hend : zi false r m 0 = .ok ((m, 0), r) := by
    cases r with
    | nil => unfold zi; rw [if_neg (by omega)]; rfl
    | cons t q => unfold zi; rw [if_neg (hr t q rfl), if_neg (by omega)]; rfl
  have h4 : jE 2 (ju 2 m) = m := vv 2 m (by omega) hm.1 (by omega) (jdd 2 m (by omega) hm.1 hm.2); rw [jjM rfl (by rw [show (tagT (ju 2 m)).text = ju 2 m from rfl, h4]; omega)]; rw [show (tagT (ju 2 m)).text = ju 2 m from rfl, h4, hend]
theorem ja3 (l : List (List UInt8)) (r : List Tok) (h : 0 < l.length) : ∀ t q, vg l ++ r = t :: q → t.kind ≠ 2 := by
  intro t q e
  match l, h with
  | [x], _ => cases e; exact fun h => by cases h
  | x :: y :: ys, _ => cases e; exact fun h => by cases h
set_option maxRecDepth 4000 in
theorem jg1 : ∀ (m n d : Nat) (t : Tst) (rest : List Tok), DeepT m t → jt m d t = 0 → (jZ m t).length ≤ n → jJ n d (jZ m t ++ rest) = .ok (t, rest) := by
  intro m
  induction m with
  | zero => intro n d t rest h; exact h.elim
  | succ m ih =>
    intro n d t rest hdeep hf hn; obtain ⟨hnum, hd, hfit, hin⟩ := jaN hf; rw [jb1] at hnum; obtain ⟨k, hk, h1, h2⟩ := jaz hnum; have hlen : 1 ≤ (jZ (m + 1) t).length := by unfold jZ; simp
    obtain ⟨n, rfl⟩ : ∃ n', n = n' + 1 := ⟨n - 1, by omega⟩; have hkb := fun r => jdD 1 d k (by omega) hd h1 h2 (jhd 1 k (by omega) h1 h2) r
    unfold jJ; unfold jZ at hn ⊢; rw [hk] at hn ⊢; simp only [Int.toNat_natCast] at hn ⊢; rw [List.cons_append, hkb]; simp only [jv]; unfold qw at hfit; rw [hk] at hfit; have hall : ∀ x ∈ t.tests, ∀ (k : Nat), (jZ m x).length ≤ k → ∀ r, jJ k (d + 1) (jZ m x ++ r) = .ok (x, r) := fun x hx k hk r => ih k (d + 1) x r (hdeep x hx) (hin x hx) hk
    rcases jht h1 h2 with rfl | rfl | rfl | rfl | rfl | rfl | rfl | rfl | rfl | rfl
    · simp at hfit hn ⊢
      have := qb hfit; cases t; simp [jG] at this hk ⊢; simp [this, hk]
    · simp at hfit hn ⊢
      have := qb hfit; cases t; simp [jG] at this hk ⊢; simp [this, hk]
    · simp at hfit hn ⊢
      obtain ⟨ha, hb⟩ := hfit; obtain ⟨x, hx⟩ : ∃ x, t.tests = [x] := List.length_eq_one_iff.1 ha; rw [hx] at hn ⊢
      simp at hn ⊢
      rw [hall x (by rw [hx]; simp) n (by omega) rest]; have := qb hb; cases t; simp [jG] at this hk hx ⊢; simp [this, hk, hx]
    · simp at hfit hn ⊢
      obtain ⟨ha, hb⟩ := hfit; obtain ⟨x, xs, hx⟩ : ∃ x xs, t.tests = x :: xs := by
        cases h : t.tests with
        | nil => rw [h] at ha; simp at ha
        | cons x xs => exact ⟨x, xs, rfl⟩
      have hl : ∀ y ∈ t.tests, (jZ m y).length ≤ n := fun y hy => by have := jfy (jZ m) t.tests y hy; omega
      unfold zH; rw [qc]; simp only [jv]; rw [hx]; have e : sepT (jZ m) (x :: xs) ++ jx 41 :: rest = jZ m x ++ ((xs.flatMap fun y => jx 44 :: jZ m y) ++ jx 41 :: rest) := by simp [sepT]
      rw [e, hall x (by rw [hx]; simp) n (hl x (by rw [hx]; simp))]; simp only; rw [jb3 (jJ n (d + 1)) (jZ m) (jx 41 :: rest) (jaZ (by decide) rest) xs [x] _ (jdh _ _ _) fun z hz r => hall z (by rw [hx]; simp [hz]) n (hl z (by rw [hx]; simp [hz])) r]; simp only; rw [qc]; have := qb hb; cases t; simp [jG] at this hk hx ⊢; simp [this, hk, hx]
    · simp at hfit hn ⊢
      obtain ⟨ha, hb⟩ := hfit; obtain ⟨x, xs, hx⟩ : ∃ x xs, t.tests = x :: xs := by
        cases h : t.tests with
        | nil => rw [h] at ha; simp at ha
        | cons x xs => exact ⟨x, xs, rfl⟩
      have hl : ∀ y ∈ t.tests, (jZ m y).length ≤ n := fun y hy => by have := jfy (jZ m) t.tests y hy; omega
      unfold zH; rw [qc]; simp only [jv]; rw [hx]; have e : sepT (jZ m) (x :: xs) ++ jx 41 :: rest = jZ m x ++ ((xs.flatMap fun y => jx 44 :: jZ m y) ++ jx 41 :: rest) := by simp [sepT]
      rw [e, hall x (by rw [hx]; simp) n (hl x (by rw [hx]; simp))]; simp only; rw [jb3 (jJ n (d + 1)) (jZ m) (jx 41 :: rest) (jaZ (by decide) rest) xs [x] _ (jdh _ _ _) fun z hz r => hall z (by rw [hx]; simp [hz]) n (hl z (by rw [hx]; simp [hz])) r]; simp only; rw [qc]; have := qb hb; cases t; simp [jG] at this hk hx ⊢; simp [this, hk, hx]
    · simp [cmpB] at hfit hn ⊢
      obtain ⟨⟨⟨ha, hb⟩, hc⟩, hd'⟩ := hfit; rw [qu] at ha
      simp at ha
      obtain ⟨mm, hmm⟩ : ∃ mm : Nat, t.mat = (mm : Int) := ⟨t.mat.toNat, by omega⟩; rw [hmm] at ha ⊢; simp only [Int.toNat_natCast]; rw [ji8 mm (by omega) _ (ja3 _ _ hb)]; simp only; rw [qt _ _ hb]; simp only; rw [qt _ _ hc]; have := qb hd'; cases t; simp [jG] at this hk hmm ⊢; simp [this, hk, hmm]
    · simp [cmpB] at hfit hn ⊢
      obtain ⟨⟨⟨⟨ha, hb⟩, hc⟩, hp⟩, hd'⟩ := hfit; rw [qu] at ha; rw [qY] at hp
      simp at ha hp
      obtain ⟨mm, hmm⟩ : ∃ mm : Nat, t.mat = (mm : Int) := ⟨t.mat.toNat, by omega⟩; obtain ⟨pp, hpp⟩ : ∃ pp : Nat, t.part = (pp : Int) := ⟨t.part.toNat, by omega⟩; rw [hmm] at ha ⊢; rw [hpp] at hp ⊢; simp only [Int.toNat_natCast]; rw [jfs mm pp (by omega) (by omega) _ (ja3 _ _ hb)]; simp only; rw [qt _ _ hb]; simp only; rw [qt _ _ hc]; have := qb hd'; cases t; simp [jG] at this hk hmm hpp ⊢; simp [this, hk, hmm, hpp]
    · simp [cmpB] at hfit hn ⊢
      obtain ⟨⟨⟨⟨ha, hb⟩, hc⟩, hp⟩, hd'⟩ := hfit; rw [qu] at ha; rw [qY] at hp
      simp at ha hp
      obtain ⟨mm, hmm⟩ : ∃ mm : Nat, t.mat = (mm : Int) := ⟨t.mat.toNat, by omega⟩; obtain ⟨pp, hpp⟩ : ∃ pp : Nat, t.part = (pp : Int) := ⟨t.part.toNat, by omega⟩; rw [hmm] at ha ⊢; rw [hpp] at hp ⊢; simp only [Int.toNat_natCast]; rw [jfs mm pp (by omega) (by omega) _ (ja3 _ _ hb)]; simp only; rw [qt _ _ hb]; simp only; rw [qt _ _ hc]; have := qb hd'; cases t; simp [jG] at this hk hmm hpp ⊢; simp [this, hk, hmm, hpp]
    · simp at hfit hn ⊢
      obtain ⟨ha, hb⟩ := hfit; rw [qt _ _ ha]; have := qb hb; cases t; simp [jG] at this hk ⊢; simp [this, hk]
    · simp at hfit hn ⊢
      obtain ⟨ha, hb⟩ := hfit; have := qb hb; cases hov : t.over with
      | true =>
        have e : zG (tagT jdq :: ⟨3, [], t.limit⟩ :: rest) = .ok ((true, t.limit), rest) := by unfold zG za tagT qi jv; simp
        simp only [if_true]; rw [e]; cases t; simp [jG] at this hk hov ⊢; simp [this, hk, hov]
      | false =>
        have e : zG (tagT jaU :: ⟨3, [], t.limit⟩ :: rest) = .ok ((false, t.limit), rest) := by
          unfold zG; have a : za 2 jdq (tagT jaU :: ⟨3, [], t.limit⟩ :: rest) = none := by unfold za tagT; simp [jdq, jaU]
          rw [a]; unfold jK za tagT qi jv
          simp
        simp
        rw [e]; cases t; simp [jG] at this hk hov ⊢; simp [this, hk, hov]
def ja9 (r : List Tok) : Prop := za 1 ql r = none ∧ za 1 jaa r = none
theorem jd4 (c : UInt8) (r : List Tok) : ja9 (jx c :: r) := by constructor <;> (unfold za jx; simp)
theorem jjF : ja9 [] := ⟨rfl, rfl⟩
theorem jhi (n : Nat) (h1 : 1 ≤ n) (h2 : n ≤ 10) (r : List Tok) : ja9 (zz (ju 0 n) :: r) := by
  match n, h1, h2 with
  | 1, _, _ | 2, _, _ | 3, _, _ | 4, _, _ | 5, _, _ | 6, _, _ | 7, _, _ | 8, _, _ | 9, _, _ | 10, _, _ => exact ⟨rfl, rfl⟩
theorem qe {n d : Nat} {c : Cmd} (h : jm (n + 1) d c = 0) : jP 0 c.kind = true ∧ d ≤ 6 ∧ qa c = true ∧ (c.kind = 2 → jt n 1 c.test = 0 ∧ (∀ x ∈ c.thn, jm n (d + 1) x = 0) ∧ match zj c.els with | some x => jm n d x = 0 | none => ∀ x ∈ c.els, jm n (d + 1) x = 0) := by
  rw [zL] at h
  by_cases h1 : oneP (jP 0 c.kind) d (qa c) = 0
  · rw [if_neg (by simpa using h1)] at h; obtain ⟨a, b, e⟩ := jeh h1; refine ⟨a, b, e, fun hk => ?_⟩; rw [if_neg (by simpa using hk)] at h
    by_cases h2 : jt n 1 c.test = 0
    · rw [if_neg (by simpa using h2)] at h
      by_cases h3 : jw (jm n (d + 1)) c.thn = 0
      · rw [if_neg (by simpa using h3)] at h; refine ⟨h2, vo h3, ?_⟩; cases he : zj c.els with
        | some x => rw [he] at h; exact h
        | none => rw [he] at h; exact vo h
      · rw [if_pos h3] at h; exact absurd h h3
    · rw [if_pos h2] at h; exact absurd h h2
  · rw [if_pos h1] at h; exact absurd h h1
theorem jdb {n d : Nat} {c : Cmd} (h : jm (n + 1) d c = 0) : ∃ k : Nat, c.kind = (k : Int) ∧ 1 ≤ k ∧ k ≤ 10 := by
  obtain ⟨a, _⟩ := qe h; rw [jdR] at a; exact jaz a
theorem jck {m d : Nat} (r : List Tok) (hr : ja9 r) : ∀ (l : List Cmd), (∀ x ∈ l, DeepC m x ∧ jm m d x = 0) → ja9 (l.flatMap (cmdT m) ++ r) := by
  intro l h; cases l with
  | nil => exact hr
  | cons x l =>
    obtain ⟨h1, h2⟩ := h x (by simp); cases m with
    | zero => exact h1.elim
    | succ m =>
      obtain ⟨k, hk, k1, k2⟩ := jdb h2; have : (x :: l).flatMap (cmdT (m + 1)) ++ r = zz (ju 0 k) :: (zC (m + 1) x ++ (l.flatMap (cmdT (m + 1)) ++ r)) := by
        simp only [List.flatMap_cons, cmdT, hk]; simp
      rw [this]; exact jhi k k1 k2 _
theorem jeU {A : Type} (g : A → List Tok) : ∀ (l : List A) (x : A), x ∈ l → (g x).length ≤ (l.flatMap g).length := by
  intro l
  induction l with
  | nil => intro x h; cases h
  | cons y l ih =>
    intro x h; simp only [List.flatMap_cons, List.length_append]
    rcases List.mem_cons.1 h with rfl | e
    · omega
    · have := ih x e; omega
theorem jgA (f : List Tok → Rdg Cmd) (m d : Nat) (rest : List Tok) : ∀ (l acc : List Cmd) (n : Nat), l.length < n → (∀ x ∈ l, DeepC m x ∧ jm m d x = 0) → (∀ x ∈ l, ∀ r, ja9 r → f (cmdT m x ++ r) = .ok (x, r)) → zP f n acc (l.flatMap (cmdT m) ++ jx 125 :: rest) = .ok (acc ++ l, rest) := by
  intro l
  induction l with
  | nil =>
    intro acc n hn _ _; cases n with
    | zero => simp at hn
    | succ n =>
      simp only [List.flatMap_nil, List.nil_append, List.append_nil]; rw [zP, jaP]
  | cons x l ih =>
    intro acc n hn hv hf; cases n with
    | zero => simp at hn
    | succ n =>
      have e : (x :: l).flatMap (cmdT m) ++ jx 125 :: rest = cmdT m x ++ (l.flatMap (cmdT m) ++ jx 125 :: rest) := by simp
      have hs : za 5 [125] (cmdT m x ++ (l.flatMap (cmdT m) ++ jx 125 :: rest)) = none := by unfold cmdT za zz; simp
      have hi : (cmdT m x ++ (l.flatMap (cmdT m) ++ jx 125 :: rest)).isEmpty = false := by unfold cmdT; rfl
      rw [e, zP, hs]; simp only; rw [hi, if_neg (by simp), hf x (by simp) _ (jck _ (jd4 _ _) l fun y hy => hv y (by simp [hy]))]
      show zP f n (acc ++ [x]) _ = _
      rw [ih (acc ++ [x]) n (by simpa using hn) (fun y hy => hv y (by simp [hy])) fun y hy => hf y (by simp [hy])]
      simp
theorem jc7 (m : Nat) (l : List Cmd) (r : List Tok) : l.length ≤ (l.flatMap (cmdT m) ++ r).length := by
  induction l with
  | nil => simp
  | cons x l ih => simp only [List.flatMap_cons, List.length_append, List.length_cons, cmdT] at ih ⊢; omega
theorem jfS (f : List Tok → Rdg Cmd) (m d : Nat) (rest : List Tok) (l : List Cmd) (hv : ∀ x ∈ l, DeepC m x ∧ jm m d x = 0) (hf : ∀ x ∈ l, ∀ r, ja9 r → f (cmdT m x ++ r) = .ok (x, r)) : zx f (jx 123 :: (l.flatMap (cmdT m) ++ jx 125 :: rest)) = .ok (l, rest) := by
  unfold zx; rw [qc]; simp only [jv]; have := jc7 m l (jx 125 :: rest); rw [jgA f m d rest l [] _ (by omega) hv hf]; rfl
theorem jeb (m : Nat) (l : List Cmd) : (l.flatMap fun x => zz (ju 0 x.kind.toNat) :: zC m x) = l.flatMap (cmdT m) := rfl
theorem jfA : ∀ (m : Nat), (∀ (n d : Nat) (c : Cmd) (rest : List Tok), DeepC m c → jm m d c = 0 → c.kind = 2 → ja9 rest → (zC m c).length ≤ n → cmdP n false d (zC m c ++ rest) = .ok (c, rest)) ∧
    (∀ (n d : Nat) (c : Cmd) (rest : List Tok), DeepC m c → jm m d c = 0 → ja9 rest → (cmdT m c).length ≤ n → cmdP n true d (cmdT m c ++ rest) = .ok (c, rest)) := by
  intro m
  induction m with
  | zero => exact ⟨fun n d c rest h => h.elim, fun n d c rest h => h.elim⟩
  | succ m ih =>
    have first : ∀ (n d : Nat) (c : Cmd) (rest : List Tok), DeepC (m + 1) c → jm (m + 1) d c = 0 → c.kind = 2 → ja9 rest → (zC (m + 1) c).length ≤ n → cmdP n false d (zC (m + 1) c ++ rest) = .ok (c, rest) := by
      intro n d c rest hdeep hf hk hfree hn; obtain ⟨_, hd, hfit, h2⟩ := qe hf; obtain ⟨hT, hA, hE⟩ := h2 hk; obtain ⟨dT, dA, dE⟩ := hdeep; have htx : c.texts = [] := by
        unfold qa at hfit; rw [hk] at hfit
        simpa using hfit
      have hc : ∀ els, c.els = els → c = ⟨2, [], c.test, c.thn, els⟩ := by intro els he; cases c; simp at hk htx he ⊢; simp [hk, htx, he]
      unfold zC at hn ⊢; rw [if_pos hk] at hn ⊢; rw [jeb] at hn ⊢; obtain ⟨n, rfl⟩ : ∃ n', n = n' + 1 := ⟨n - 1, by simp at hn; omega⟩; have hlT : (jZ m c.test).length ≤ n := by simp at hn; omega
      have hlA : (c.thn.flatMap (cmdT m)).length ≤ n := by simp only [List.length_append, List.length_cons, List.length_nil] at hn; omega
      have hblock : ∀ (l : List Cmd) (r : List Tok), (∀ x ∈ l, DeepC m x) → (∀ x ∈ l, jm m (d + 1) x = 0) → (l.flatMap (cmdT m)).length ≤ n → zx (cmdP n true (d + 1)) (jx 123 :: (l.flatMap (cmdT m) ++ jx 125 :: r)) = .ok (l, r) := by
        intro l r h1 h2 h3; refine jfS _ m (d + 1) r l (fun x hx => ⟨h1 x hx, h2 x hx⟩) fun x hx r hr => ?_
        have := jeU (cmdT m) l x hx; exact ih.2 n (d + 1) x r (h1 x hx) (h2 x hx) hr (by omega)
      unfold cmdP; have e : ∀ tl : List Tok, jZ m c.test ++ (jx 123 :: c.thn.flatMap (cmdT m) ++ [jx 125]) ++ tl ++ rest = jZ m c.test ++ (jx 123 :: (c.thn.flatMap (cmdT m) ++ jx 125 :: (tl ++ rest))) := by intro tl; simp
      rw [e, jg1 m n 1 c.test _ dT hT hlT]; simp only [jv]; rw [hblock _ _ dA hA hlA]; simp only; cases he : zj c.els with
      | some x =>
        rw [he] at hE hn; obtain ⟨hx, hx2⟩ := zI he; have hl : (zC m x).length ≤ n := by simp at hn; omega
        simp only; rw [show (zz ql :: zC m x) ++ rest = zz ql :: (zC m x ++ rest) from rfl]; rw [show za 1 ql (zz ql :: (zC m x ++ rest)) = some (zC m x ++ rest) from by unfold za zz; simp]; simp only; rw [ih.1 n d x rest (dE x (by rw [hx]; simp)) hE hx2 hfree hl]; simp only; rw [hc _ hx]
      | none =>
        rw [he] at hE hn; simp only at hE hn ⊢
        by_cases hz : c.els.length = 0
        · rw [if_pos hz, List.nil_append, hfree.1]; simp only; rw [hfree.2]; simp only; rw [hc [] (List.length_eq_zero_iff.1 hz)]
        · rw [if_neg hz] at hn ⊢; rw [jeb] at hn ⊢; have hl : (c.els.flatMap (cmdT m)).length ≤ n := by simp only [List.length_append, List.length_cons, List.length_nil] at hn; omega
          have e2 : (zz jaa :: jx 123 :: c.els.flatMap (cmdT m) ++ [jx 125]) ++ rest = zz jaa :: (jx 123 :: (c.els.flatMap (cmdT m) ++ jx 125 :: rest)) := by simp
          rw [e2]; rw [show ∀ r, za 1 ql (zz jaa :: r) = none from fun r => by unfold za zz; simp [ql, jaa]]; simp only; rw [show ∀ r, za 1 jaa (zz jaa :: r) = some r from fun r => by unfold za zz; simp]; simp only; rw [hblock _ _ dE hE hl]; simp only; rw [hc _ rfl]
    refine ⟨first, ?_⟩; intro n d c rest hdeep hf hfree hn; obtain ⟨k, hk, k1, k2⟩ := jdb hf; obtain ⟨_, hd, hfit, h2⟩ := qe hf; obtain ⟨n, rfl⟩ : ∃ n', n = n' + 1 := ⟨n - 1, by unfold cmdT at hn; simp at hn; omega⟩; have hlen : (zC (m + 1) c).length ≤ n := by unfold cmdT at hn; simpa using hn
    have e : cmdT (m + 1) c ++ rest = zz (ju 0 k) :: (zC (m + 1) c ++ rest) := by unfold cmdT; rw [hk]; simp
    unfold cmdP; rw [e, jdD 0 d k (by omega) hd k1 k2 (jhd 0 k (by omega) k1 k2)]; simp only [jv]
    by_cases hk2 : k = 2
    · rw [if_pos hk2]; exact first n d c rest hdeep hf (by rw [hk, hk2]; rfl) hfree hlen
    · rw [if_neg hk2]; have hk2' : ¬ c.kind = 2 := by rw [hk]; omega
      unfold qa at hfit
      by_cases hz : c.kind ≠ 2 ∧ (0 < c.thn.length ∨ 0 < c.els.length ∨ qz c.test = false)
      · rw [if_pos hz] at hfit; cases hfit
      · rw [if_neg hz] at hfit; have hz' : c.thn = [] ∧ c.els = [] ∧ c.test = jG := by
          refine ⟨?_, ?_, ?_⟩
          · cases h : c.thn with
            | nil => rfl
            | cons a b => exact absurd ⟨hk2', .inl (by rw [h]; simp)⟩ hz
          · cases h : c.els with
            | nil => rfl
            | cons a b => exact absurd ⟨hk2', .inr (.inl (by rw [h]; simp))⟩ hz
          · cases h : qz c.test with
            | true => exact qb h
            | false => exact absurd ⟨hk2', .inr (.inr h)⟩ hz
        obtain ⟨z1, z2, z3⟩ := hz'; have hc : ∀ tx, c.texts = tx → c = ⟨k, tx, jG, [], []⟩ := by intro tx he; cases c; simp at hk z1 z2 z3 he ⊢; simp [hk, z1, z2, z3, he]
        unfold zC; rw [if_neg hk2']; rw [hk] at hfit
        by_cases k189 : k = 1 ∨ k = 8 ∨ k = 9
        · rw [if_pos (by omega)] at hfit; rw [if_pos k189]; have hp : 0 < c.texts.length := by simpa using hfit
          rw [if_neg (by omega), List.append_assoc, qt _ _ hp]; simp only; rw [show [jx 59] ++ rest = jx 59 :: rest from rfl, qc]; simp only; rw [hc _ rfl]
        · rw [if_neg (by omega)] at hfit; rw [if_neg k189]
          by_cases k567 : k = 5 ∨ k = 6 ∨ k = 7
          · rw [if_pos (by omega)] at hfit; rw [if_pos k567]; obtain ⟨x, hx⟩ : ∃ x, c.texts = [x] := List.length_eq_one_iff.1 (by simpa using hfit); rw [if_neg (by rw [hx]; simp), hx]; rw [show vg [x] ++ [jx 59] ++ rest = strT x :: (jx 59 :: rest) from rfl, jbG]; simp only; rw [qc]; simp only; rw [hc _ hx]
          · rw [if_neg (by omega)] at hfit; rw [if_neg k567]; have hx : c.texts.length = 0 := by simpa using hfit
            rw [if_pos hx]; rw [show ([] : List Tok) ++ [jx 59] ++ rest = jx 59 :: rest from rfl, qc]; simp only; rw [hc _ (List.length_eq_zero_iff.1 hx)]
theorem jer (f : List Tok → Rdg Cmd) (m d : Nat) : ∀ (l acc : List Cmd) (n : Nat), l.length ≤ n → (∀ x ∈ l, DeepC m x ∧ jm m d x = 0) → (∀ x ∈ l, ∀ r, ja9 r → f (cmdT m x ++ r) = .ok (x, r)) → zv f n acc (l.flatMap (cmdT m)) = .ok (acc ++ l, []) := by
  intro l
  induction l with
  | nil =>
    intro acc n hn _ _; cases n with
    | zero => simp [zv]
    | succ n => simp [zv]
  | cons x l ih =>
    intro acc n hn hv hf; cases n with
    | zero => simp at hn
    | succ n =>
      have e : (x :: l).flatMap (cmdT m) = cmdT m x ++ l.flatMap (cmdT m) := by simp
      have hi : (cmdT m x ++ l.flatMap (cmdT m)).isEmpty = false := by unfold cmdT; rfl
      have hfr := jck (m := m) (d := d) [] jjF l fun y hy => hv y (by simp [hy])
      rw [List.append_nil] at hfr; rw [e, zv, hi, if_neg (by simp), hf x (by simp) _ hfr]
      show zv f n (acc ++ [x]) _ = _
      rw [ih (acc ++ [x]) n (by simpa using hn) (fun y hy => hv y (by simp [hy])) fun y hy => hf y (by simp [hy])]
      simp
theorem jes (m : Nat) (l : List Cmd) (hd : ∀ x ∈ l, DeepC m x) (hf : jU m 0 l = 0) : zy (ze m l) = .ok (l, []) := by
  have hf' := vo hf; unfold zy; have h1 := jc7 m l []; rw [List.append_nil] at h1; refine jer _ m 0 l [] _ h1 (fun x hx => ⟨hd x hx, hf' x hx⟩) fun x hx r hr => ?_
  have := jeU (cmdT m) l x hx; exact (jfA m).2 _ 0 x r (hd x hx) (hf' x hx) hr (by unfold ze; omega)
def AllOk (l : List Tok) : Prop := ∀ t ∈ l, jO t = 0
theorem AllOk.app {a b : List Tok} (h : AllOk a) (k : AllOk b) : AllOk (a ++ b) := fun t ht => by
  rcases List.mem_append.1 ht with e | e
  · exact h t e
  · exact k t e
theorem AllOk.cons {t : Tok} {b : List Tok} (h : jO t = 0) (k : AllOk b) : AllOk (t :: b) := fun x hx => by
  rcases List.mem_cons.1 hx with e | e
  · rw [e]; exact h
  · exact k x e
theorem zm : AllOk [] := fun t h => by cases h
theorem AllOk.flat {A : Type} {g : A → List Tok} {l : List A} (h : ∀ x ∈ l, AllOk (g x)) : AllOk (l.flatMap g) := fun t ht => by
  obtain ⟨x, hx, hxt⟩ := List.mem_flatMap.1 ht; exact h x hx t hxt
theorem AllOk.sep {A : Type} {g : A → List Tok} {l : List A} (h : ∀ x ∈ l, AllOk (g x)) : AllOk (sepT g l) := by
  cases l with
  | nil => exact zm
  | cons x l => exact AllOk.app (h x (by simp)) (AllOk.flat fun y hy => AllOk.cons (by decide) (h y (by simp [hy])))
theorem jjL (x : List UInt8) : jO (strT x) = 0 := rfl
theorem jbi (l : List (List UInt8)) : AllOk (vg l) := by
  match l with
  | [] => exact AllOk.cons (by decide) (AllOk.app (AllOk.sep fun x hx => by cases hx) (AllOk.cons (by decide) zm))
  | [x] => exact AllOk.cons (jjL x) zm
  | x :: y :: ys => exact AllOk.cons (by decide) (AllOk.app (AllOk.sep fun z _ => AllOk.cons (jjL z) zm) (AllOk.cons (by decide) zm))
theorem jfD (k n : Nat) (hk : k < 2) (h1 : 1 ≤ n) (h2 : n ≤ 10) : jO (zz (ju k n)) = 0 := by
  match k, hk with
  | 0, _ | 1, _ =>
    match n, h1, h2 with
    | 1, _, _ | 2, _, _ | 3, _, _ | 4, _, _ | 5, _, _ | 6, _, _ | 7, _, _ | 8, _, _ | 9, _, _ | 10, _, _ => decide
theorem jfi (k n : Nat) (hk : 2 ≤ k ∧ k < 4) (h1 : 1 ≤ n) (h2 : n ≤ 3) : jO (tagT (ju k n)) = 0 := by
  match k, hk with
  | 2, _ | 3, _ =>
    match n, h1, h2 with
    | 1, _, _ | 2, _, _ | 3, _, _ => decide
theorem jkl : ∀ (m d : Nat) (t : Tst), DeepT m t → jt m d t = 0 → AllOk (jZ m t) := by
  intro m
  induction m with
  | zero => intro d t h; exact h.elim
  | succ m ih =>
    intro d t hdeep hf; obtain ⟨hnum, hd, hfit, hin⟩ := jaN hf; rw [jb1] at hnum; obtain ⟨k, hk, h1, h2⟩ := jaz hnum; unfold jZ; unfold qw at hfit; rw [hk] at hfit ⊢; simp only [Int.toNat_natCast]; refine AllOk.cons (jfD 1 k (by omega) h1 h2) ?_; have hall : ∀ x ∈ t.tests, AllOk (jZ m x) := fun x hx => ih (d + 1) x (hdeep x hx) (hin x hx)
    by_cases k3 : (k : Int) = 3
    · rw [if_pos k3]; cases h : t.tests with
      | nil => exact zm
      | cons x xs => exact hall x (by rw [h]; simp)
    rw [if_neg k3] at hfit ⊢
    by_cases k45 : (k : Int) = 4 ∨ (k : Int) = 5
    · rw [if_pos k45]; exact AllOk.cons (by decide) (AllOk.app (AllOk.sep hall) (AllOk.cons (by decide) zm))
    rw [if_neg k45] at hfit ⊢
    by_cases k6 : (k : Int) = 6
    · rw [if_pos k6] at hfit ⊢
      simp [cmpB, qu] at hfit
      exact AllOk.cons (jfi 2 _ (by omega) (by omega) (by omega)) (AllOk.app (jbi _) (jbi _))
    rw [if_neg k6] at hfit ⊢
    by_cases k78 : (k : Int) = 7 ∨ (k : Int) = 8
    · rw [if_pos k78] at hfit ⊢
      simp [cmpB, qu, qY] at hfit
      exact AllOk.cons (jfi 3 _ (by omega) (by omega) (by omega)) (AllOk.cons (jfi 2 _ (by omega) (by omega) (by omega)) (AllOk.app (jbi _) (jbi _)))
    rw [if_neg k78] at hfit ⊢
    by_cases k9 : (k : Int) = 9
    · rw [if_pos k9]; exact jbi _
    rw [if_neg k9] at hfit ⊢
    by_cases k10 : (k : Int) = 10
    · rw [if_pos k10] at hfit ⊢
      simp at hfit
      refine AllOk.cons ?_ (AllOk.cons ?_ zm)
      · cases t.over <;> decide
      · unfold jO; rw [if_neg (by simp), if_pos rfl, if_neg (by simp; omega), if_neg (by simp)]
    · rw [if_neg k10]; exact zm
theorem jjY : ∀ (m d : Nat) (c : Cmd), DeepC m c → jm m d c = 0 → AllOk (zC m c) ∧ AllOk (cmdT m c) := by
  intro m
  induction m with
  | zero => intro d c h; exact h.elim
  | succ m ih =>
    intro d c hdeep hf; obtain ⟨k, hk, k1, k2⟩ := jdb hf; obtain ⟨_, hd, hfit, h2⟩ := qe hf; have hr : AllOk (zC (m + 1) c) := by
      unfold zC
      by_cases hk2 : c.kind = 2
      · rw [if_pos hk2]; obtain ⟨hT, hA, hE⟩ := h2 hk2; obtain ⟨dT, dA, dE⟩ := hdeep; refine AllOk.app (AllOk.app (jkl _ _ _ dT hT) (AllOk.app (AllOk.cons (by decide) (AllOk.flat fun x hx => (ih _ x (dA x hx) (hA x hx)).2)) (AllOk.cons (by decide) zm))) ?_; cases he : zj c.els with
        | some x =>
          rw [he] at hE; obtain ⟨hx, _⟩ := zI he; exact AllOk.cons (by decide) (ih _ x (dE x (by rw [hx]; simp)) hE).1
        | none =>
          rw [he] at hE; simp only
          by_cases hz : c.els.length = 0
          · rw [if_pos hz]; exact zm
          · rw [if_neg hz]; exact AllOk.cons (by decide) (AllOk.app (AllOk.cons (by decide) (AllOk.flat fun x hx => (ih _ x (dE x hx) (hE x hx)).2)) (AllOk.cons (by decide) zm))
      · rw [if_neg hk2]; refine AllOk.app ?_ (AllOk.cons (by decide) zm)
        by_cases hz : c.texts.length = 0
        · rw [if_pos hz]; exact zm
        · rw [if_neg hz]; exact jbi _
    refine ⟨hr, ?_⟩; unfold cmdT; rw [hk]; exact AllOk.cons (jfD 0 k (by omega) k1 k2) hr
theorem jfC : ∀ (l : List Tok) (i : Nat), AllOk l → vj l i = none := by
  intro l
  induction l with
  | nil => intro i _; rfl
  | cons t l ih =>
    intro i h; unfold vj; rw [if_pos (h t (by simp))]; exact ih _ fun x hx => h x (by simp [hx])
theorem jh6 : ∀ (l : List Tok) (i : Nat), vj l i = none → AllOk l := by
  intro l
  induction l with
  | nil => intro i _ t h; cases h
  | cons t l ih =>
    intro i h; unfold vj at h
    by_cases ht : jO t = 0
    · rw [if_pos ht] at h; exact AllOk.cons ht (ih _ h)
    · rw [if_neg ht] at h; cases h
theorem jgb (m : Nat) (l : List Cmd) (hd : ∀ x ∈ l, DeepC m x) (hc : zb m l = 0) : zp (ze m l) = (l, 0, 0) := by
  have h0 : jU m 0 l = 0 ∧ (ze m l).length ≤ 400 := by
    unfold zb at hc
    by_cases h1 : jU m 0 l = 0
    · rw [if_neg (by simpa using h1)] at hc
      by_cases h2 : 400 < (ze m l).length
      · rw [if_pos h2] at hc; cases hc
      · exact ⟨h1, by omega⟩
    · rw [if_pos h1] at hc; exact absurd hc h1
  unfold zp; rw [if_neg (by omega), jfC (ze m l) _ (AllOk.flat fun x hx => (jjY m 0 x (hd x hx) (vo h0.1 x hx)).2)]; simp only; rw [jes m l hd h0.1]
end Go.Proofs.YthikilhhmianlaaGreatDoor
namespace Go.Proofs.YthikilhhmianlaaGreatDoor
open Go.RowKit
theorem AllOk.tail {t : Tok} {l : List Tok} (h : AllOk (t :: l)) : AllOk l := fun x hx => h x (by simp [hx])
theorem jga : ∀ (T : List (List UInt8)) (n : Nat) (s : List UInt8), jbb T n s ≠ 0 → n ≤ jbb T n s ∧ T[jbb T n s - n]? = some s := by
  intro T
  induction T with
  | nil => intro n s h; exact absurd rfl h
  | cons x T ih =>
    intro n s h; unfold jbb at h ⊢
    by_cases hx : x = s
    · rw [if_pos hx] at h ⊢; refine ⟨Nat.le_refl _, ?_⟩; rw [Nat.sub_self, hx]; rfl
    · rw [if_neg hx] at h ⊢; obtain ⟨a, b⟩ := ih (n + 1) s h; refine ⟨by omega, ?_⟩; rw [show jbb T (n + 1) s - n = (jbb T (n + 1) s - (n + 1)) + 1 by omega]
      simpa using b
theorem jcA {k : Nat} {s : List UInt8} (hk : k < 4) (h : jE k s ≠ 0) : 1 ≤ jE k s ∧ jE k s ≤ 10 ∧ ju k (jE k s) = s ∧ s ≠ [] := by
  obtain ⟨_, b⟩ := jga _ _ _ h; have hb : (wTabs.getD k [])[jE k s]? = some s := by simpa [jE] using b
  have hlen : (wTabs.getD k []).length = 11 := by
    match k, hk with
    | 0, _ | 1, _ | 2, _ | 3, _ => rfl
  have hlt : jE k s < (wTabs.getD k []).length := (List.getElem?_eq_some_iff.1 hb).1; refine ⟨by omega, by omega, ?_, ?_⟩
  · unfold ju; rw [List.getD_eq_getElem?_getD, hb]; rfl
  · intro he
    apply h
    rw [he]
    match k, hk with
    | 0, _ | 1, _ | 2, _ | 3, _ => rfl
theorem jch {k : Nat} {s : List UInt8} (hk : k < 4) (h : jE k s ≠ 0) : jP k (jE k s : Nat) = true := by
  obtain ⟨h1, h2, h3, h4⟩ := jcA hk h; unfold jP; simp only [Int.toNat_natCast]; rw [h3]; have : s.isEmpty = false := by cases s with
    | nil => exact absurd rfl h4
    | cons _ _ => rfl
  rw [this]
  simp
  omega
theorem jfu {k d n : Nat} {r q : List Tok} (hk : k < 4) (h : qW k d r = .ok (n, q)) (ha : AllOk r) : d ≤ 6 ∧ jP k n = true ∧ 1 ≤ n ∧ n ≤ 10 ∧ AllOk q := by
  obtain ⟨hd, hn, t, rfl, _, ht⟩ := jbA h; subst ht; obtain ⟨h1, h2, _⟩ := jcA hk hn; exact ⟨hd, jch hk hn, h1, h2, ha.tail⟩
theorem zD {k : Int} {s : List UInt8} {r q : List Tok} (h : za k s r = some q) (ha : AllOk r) : AllOk q := by
  obtain ⟨t, rfl, _⟩ := jaX h; exact ha.tail
theorem jbB {r q : List Tok} {x : List UInt8} (h : zW r = .ok (x, q)) (ha : AllOk r) : AllOk q := by
  obtain ⟨t, rfl, _⟩ := jfB h; exact ha.tail
theorem jfF {A : Type} {f : List Tok → Rdg A} {P : A → Prop} (hf : ∀ r x q, f r = .ok (x, q) → AllOk r → P x ∧ AllOk q) : ∀ (n : Nat) (acc l : List A) (r q : List Tok), qo f n acc r = .ok (l, q) → AllOk r → (∀ x ∈ acc, P x) → AllOk q ∧ (∀ x ∈ l, P x) ∧ acc.length ≤ l.length := by
  intro n
  induction n with
  | zero => intro acc l r q h ha hp; cases h; exact ⟨ha, hp, Nat.le_refl _⟩
  | succ n ih =>
    intro acc l r q h ha hp; unfold qo at h; split at h
    · cases h; exact ⟨ha, hp, Nat.le_refl _⟩
    · rename_i q0 hs; obtain ⟨x, q1, h1, h2⟩ := jl h; obtain ⟨px, ok⟩ := hf _ _ _ h1 (zD hs ha); obtain ⟨a, b, c⟩ := ih _ _ _ _ h2 ok fun y hy => by
        rcases List.mem_append.1 hy with e | e
        · exact hp y e
        · simp at e; rw [e]; exact px
      exact ⟨a, b, by simp at c; omega⟩
theorem jbD {r q : List Tok} {l : List (List UInt8)} (h : zd r = .ok (l, q)) (ha : AllOk r) : 0 < l.length ∧ AllOk q := by
  unfold zd at h; split at h
  · obtain ⟨x, q1, h1, h2⟩ := jl h; cases h2; exact ⟨by simp, jbB h1 ha⟩
  · rename_i q0 hs; obtain ⟨x, q1, h1, h2⟩ := jl h; obtain ⟨l2, q2, h3, h4⟩ := jl h2; obtain ⟨u, q3, h5, h6⟩ := jl h4; cases h6; obtain ⟨a, _, c⟩ := jfF (P := fun _ => True) (fun _ _ _ h ha => ⟨trivial, jbB h ha⟩) _ _ _ _ _ h3 (jbB h1 (zD hs ha)) (fun _ _ => trivial); exact ⟨by simp at c; omega, zD (j8 h5) a⟩
theorem jjj {b : Bool} : ∀ (r : List Tok) (m p : Nat) (x : Nat × Nat) (q : List Tok), zi b r m p = .ok (x, q) → AllOk r → (m = 0 ∨ jP 2 m = true) → (p = 0 ∨ jP 3 p = true) → (b = false → p = 0) → jP 2 x.1 = true ∧ (if b then jP 3 x.2 = true else x.2 = 0) ∧ AllOk q := by
  have hend : ∀ (m p : Nat), (m = 0 ∨ jP 2 m = true) → (p = 0 ∨ jP 3 p = true) → (b = false → p = 0) → jP 2 ((if m = 0 then 1 else m : Nat) : Int) = true ∧ (if b then jP 3 ((if p = 0 ∧ b = true then 1 else p : Nat) : Int) = true else (if p = 0 ∧ b = true then 1 else p : Nat) = 0) := by
    intro m p hm hp hb
    constructor
    · by_cases h : m = 0
      · rw [if_pos h]; rfl
      · rw [if_neg h]; exact hm.resolve_left h
    · cases b with
      | false => simp [hb rfl]
      | true =>
        simp only [if_true, and_true]
        by_cases h : p = 0
        · rw [if_pos h]; rfl
        · rw [if_neg h]; exact hp.resolve_left h
  intro r
  induction r with
  | nil =>
    intro m p x q h ha hm hp hb; unfold zi at h; cases h; obtain ⟨a, c⟩ := hend m p hm hp hb; exact ⟨a, c, ha⟩
  | cons t r ih =>
    intro m p x q h ha hm hp hb; unfold zi at h; split at h
    · split at h
      · rename_i h2; exact ih _ _ _ _ h ha.tail (.inr (jch (by omega) h2.1)) hp hb
      · split at h
        · rename_i h3; exact ih _ _ _ _ h ha.tail hm (.inr (jch (by omega) h3.1)) (fun hf => by rw [hf] at h3; cases h3.2.2)
        · cases h
    · cases h; obtain ⟨a, c⟩ := hend m p hm hp hb; exact ⟨a, c, ha⟩
theorem jgO {t : Tok} (h : t.kind = 3) (ha : jO t = 0) : 0 ≤ t.num ∧ t.num ≤ 2147483647 := by
  unfold jO at ha; rw [if_neg (by omega), if_pos h] at ha
  by_cases hr : 0 ≤ t.num ∧ t.num ≤ 2147483647
  · exact hr
  · rw [if_pos hr] at ha; cases ha
theorem jim {r q : List Tok} {x : Bool × Int} (h : zG r = .ok (x, q)) (ha : AllOk r) : 0 ≤ x.2 ∧ x.2 ≤ 2147483647 ∧ AllOk q := by
  unfold zG at h; split at h
  · rename_i q0 hs; obtain ⟨t, q1, h1, h2⟩ := jl h; cases h2; have a := zD hs ha; obtain ⟨rfl, hk⟩ := vP h1; have := jgO hk (a t (by simp)); exact ⟨this.1, this.2, a.tail⟩
  · obtain ⟨u, q0, h0, h'⟩ := jl h; obtain ⟨t, q1, h1, h2⟩ := jl h'; cases h2; have a := zD (j8 h0) ha; obtain ⟨rfl, hk⟩ := vP h1; have := jgO hk (a t (by simp)); exact ⟨this.1, this.2, a.tail⟩
def ValT (n d : Nat) (t : Tst) : Prop := DeepT n t ∧ ∀ m, jt m d t = 0
def ValC (n d : Nat) (c : Cmd) : Prop := DeepC (n + 1) c ∧ ∀ m, jm m d c = 0
theorem qZ {d : Nat} {t : Tst} (h1 : jP 1 t.kind = true) (h2 : d ≤ 6) (h3 : qw t = true) (h4 : ∀ x ∈ t.tests, ∀ m, jt m (d + 1) x = 0) : ∀ m, jt m d t = 0 := by
  intro m; cases m with
  | zero => rfl
  | succ m =>
    unfold jt; rw [if_pos (jeJ h1 h2 h3)]; exact qO fun x hx => h4 x hx m
theorem jjw : ∀ (n d : Nat) (r : List Tok) (t : Tst) (q : List Tok), jJ n d r = .ok (t, q) → AllOk r → ValT n d t ∧ AllOk q := by
  intro n
  induction n with
  | zero => intro d r t q h; cases h
  | succ n ih =>
    intro d r t q h ha; unfold jJ at h; obtain ⟨k, q1, h1, h2⟩ := jl h; obtain ⟨hd, hk, k1, k2, a1⟩ := jfu (by omega) h1 ha; simp only at h2; split at h2
    · rename_i e; obtain ⟨x, q2, h3, h4⟩ := jl h2; cases h4; obtain ⟨⟨dx, fx⟩, a2⟩ := ih _ _ _ _ h3 a1; refine ⟨⟨fun y hy => ?_, qZ (by subst e; exact hk) hd (by simp [qw, qz, jG]) fun y hy m => ?_⟩, a2⟩
      · simp at hy; rw [hy]; exact dx
      · simp at hy; rw [hy]; exact fx m
    · rename_i n3; split at h2
      · rename_i e; obtain ⟨l, q2, h3, h4⟩ := jl h2; cases h4; obtain ⟨u, p1, g1, g2⟩ := jl h3; obtain ⟨x, p2, g3, g4⟩ := jl g2; obtain ⟨l', p3, g5, g6⟩ := jl g4; obtain ⟨u', p4, g7, g8⟩ := jl g6; cases g8; have b1 := zD (j8 g1) a1; obtain ⟨vx, b2⟩ := ih _ _ _ _ g3 b1; obtain ⟨b3, vl, cl⟩ := jfF (P := fun x => ValT n (d + 1) x) (fun _ _ _ h ha => ih _ _ _ _ h ha) _ _ _ _ _ g5 b2 (fun y hy => by simp at hy; rw [hy]; exact vx); refine ⟨⟨fun y hy => (vl y hy).1, qZ hk hd ?_ fun y hy m => (vl y hy).2 m⟩, zD (j8 g7) b3⟩
        simp at cl
        unfold qw; simp only; rw [if_neg (by omega), if_pos (by omega)]
        simp [qz, jG]
        omega
      · rename_i n45; split at h2
        · rename_i e; obtain ⟨x, q2, h3, h4⟩ := jl h2; obtain ⟨y, q3, h5, h6⟩ := jl h4; obtain ⟨z, q4, h7, h8⟩ := jl h6; cases h8; obtain ⟨t1, t2, b1⟩ := jjj _ _ _ _ _ h3 a1 (.inl rfl) (.inl rfl) (fun _ => rfl); obtain ⟨l1, b2⟩ := jbD h5 b1; obtain ⟨l2, b3⟩ := jbD h7 b2; refine ⟨⟨fun y hy => by simp [jG] at hy, qZ hk hd ?_ fun y hy m => by simp [jG] at hy⟩, b3⟩; unfold qw; simp only; rw [if_neg (by omega), if_neg (by omega)]
          by_cases k6 : k = 6
          · subst k6
            simp at t2
            rw [if_pos (by rfl)]
            simp [cmpB, qz, jG, t1, l1, l2, t2]
          · simp [k6] at t2
            rw [if_neg (by omega), if_pos (by omega)]
            simp [cmpB, qz, jG, t1, l1, l2, t2]
        · rename_i n678; split at h2
          · rename_i e; obtain ⟨x, q2, h3, h4⟩ := jl h2; cases h4; obtain ⟨l1, b2⟩ := jbD h3 a1; refine ⟨⟨fun y hy => by simp [jG] at hy, qZ (by subst e; exact hk) hd ?_ fun y hy m => by simp [jG] at hy⟩, b2⟩
            simp [qw, qz, jG, l1]
          · rename_i n9; split at h2
            · rename_i e; obtain ⟨x, q2, h3, h4⟩ := jl h2; cases h4; obtain ⟨l1, l2, b2⟩ := jim h3 a1; refine ⟨⟨fun y hy => by simp [jG] at hy, qZ (by subst e; exact hk) hd ?_ fun y hy m => by simp [jG] at hy⟩, b2⟩
              simp [qw, qz, jG, l1, l2]
            · rename_i n10; cases h2; refine ⟨⟨fun y hy => by simp [jG] at hy, qZ hk hd ?_ fun y hy m => by simp [jG] at hy⟩, a1⟩; unfold qw; simp only; rw [if_neg (by omega), if_neg (by omega), if_neg (by omega), if_neg (by omega), if_neg (by omega), if_neg (by omega)]
              simp [qz, jG]
theorem jhG {f : List Tok → Rdg Cmd} {P : Cmd → Prop} (hf : ∀ r x q, f r = .ok (x, q) → AllOk r → P x ∧ AllOk q) : ∀ (n : Nat) (acc l : List Cmd) (r q : List Tok), zP f n acc r = .ok (l, q) → AllOk r → (∀ x ∈ acc, P x) → AllOk q ∧ ∀ x ∈ l, P x := by
  intro n
  induction n with
  | zero => intro acc l r q h; cases h
  | succ n ih =>
    intro acc l r q h ha hp; unfold zP at h; split at h
    · rename_i q0 hs; cases h; exact ⟨zD hs ha, hp⟩
    · split at h
      · cases h
      obtain ⟨x, q1, h1, h2⟩ := jl h; obtain ⟨px, ok⟩ := hf _ _ _ h1 ha; exact ih _ _ _ _ h2 ok fun y hy => by
        rcases List.mem_append.1 hy with e | e
        · exact hp y e
        · simp at e; rw [e]; exact px
theorem jcE {f : List Tok → Rdg Cmd} {P : Cmd → Prop} (hf : ∀ r x q, f r = .ok (x, q) → AllOk r → P x ∧ AllOk q) {l : List Cmd} {r q : List Tok} (h : zx f r = .ok (l, q)) (ha : AllOk r) : AllOk q ∧ ∀ x ∈ l, P x := by
  obtain ⟨u, q1, h1, h2⟩ := jl h; exact jhG hf _ _ _ _ _ h2 (zD (j8 h1) ha) fun x hx => by cases hx
theorem jbj : qz jG = true := rfl
theorem jaG {d : Nat} {c : Cmd} (h1 : jP 0 c.kind = true) (h2 : d ≤ 6) (h3 : qa c = true) (h4 : c.kind = 2 → (∀ m, jt m 1 c.test = 0) ∧ (∀ x ∈ c.thn, ∀ m, jm m (d + 1) x = 0) ∧ (match zj c.els with | some x => ∀ m, jm m d x = 0 | none => ∀ x ∈ c.els, ∀ m, jm m (d + 1) x = 0)) : ∀ m, jm m d c = 0 := by
  intro m; cases m with
  | zero => rfl
  | succ m =>
    rw [zL, if_neg (by simp [jeJ h1 h2 h3])]
    by_cases hk : c.kind = 2
    · obtain ⟨a, b, e⟩ := h4 hk; rw [if_neg (by simpa using hk), if_neg (by simp [a m]), if_neg (by simp [qO fun x hx => b x hx m])]; cases he : zj c.els with
      | some x => rw [he] at e; exact e m
      | none => rw [he] at e; exact qO fun x hx => e x hx m
    · rw [if_pos hk]
theorem jkc : ∀ (m d : Nat) (c : Cmd), jm m (d + 1) c = 0 → jm m d c = 0 := by
  intro m
  induction m with
  | zero => intro d c _; rfl
  | succ m ih =>
    intro d c h; obtain ⟨a, b, e, g⟩ := qe h; rw [zL, if_neg (by simp [jeJ a (by omega : d ≤ 6) e])]
    by_cases hk : c.kind = 2
    · obtain ⟨g1, g2, g3⟩ := g hk; rw [if_neg (by simpa using hk), if_neg (by simp [g1]), if_neg (by simp [qO fun x hx => ih (d + 1) x (g2 x hx)])]; cases he : zj c.els with
      | some x => rw [he] at g3; exact ih d x g3
      | none => rw [he] at g3; exact qO fun x hx => ih (d + 1) x (g3 x hx)
    · rw [if_pos hk]
theorem jiR : ∀ (n : Nat) (d : Nat) (r : List Tok) (c : Cmd) (q : List Tok), cmdP n false d r = .ok (c, q) → c.kind = 2 := by
  intro n d r c q h; cases n with
  | zero => cases h
  | succ n =>
    unfold cmdP at h; obtain ⟨x, q1, h1, h2⟩ := jl h; obtain ⟨y, q2, h3, h4⟩ := jl h2; split at h4
    · obtain ⟨z, q3, h5, h6⟩ := jl h4; cases h6; rfl
    · split at h4
      · obtain ⟨z, q3, h5, h6⟩ := jl h4; cases h6; rfl
      · cases h4; rfl
theorem jkf : ∀ (n : Nat) (b : Bool) (d : Nat) (r : List Tok) (c : Cmd) (q : List Tok), (b = false → d ≤ 6) → cmdP n b d r = .ok (c, q) → AllOk r → ValC n d c ∧ AllOk q := by
  intro n
  induction n with
  | zero => intro b d r c q _ h; cases h
  | succ n ih =>
    intro b d r c q hbd h ha; cases b with
    | true =>
      unfold cmdP at h; obtain ⟨k, q1, h1, h2⟩ := jl h; obtain ⟨hd, hk, k1, k2, a1⟩ := jfu (by omega) h1 ha; split at h2
      · obtain ⟨⟨v1, v2⟩, v3⟩ := ih false d q1 c q (fun _ => hd) h2 a1; exact ⟨⟨DeepC.more _ _ _ (by omega) v1, v2⟩, v3⟩
      · rename_i n2; have deep : ∀ l, DeepC (n + 2) ⟨k, l, jG, [], []⟩ := fun l => ⟨fun x hx => by simp [jG] at hx, fun x hx => by simp at hx, fun x hx => by simp at hx⟩
        have two : ∀ l : List (List UInt8), ¬ ((k : Int) = 2) := fun _ => by omega
        split at h2
        · rename_i e; obtain ⟨x, q2, h3, h4⟩ := jl h2; obtain ⟨y, q3, h5, h6⟩ := jl h4; cases h6; obtain ⟨l1, b2⟩ := jbD h3 a1; refine ⟨⟨deep _, jaG hk hd ?_ fun hk2 => absurd hk2 (two [])⟩, zD (j8 h5) b2⟩; unfold qa; rw [if_neg (by simp [jbj]), if_pos (by simp only; omega)]
          simpa using l1
        · rename_i n189; split at h2
          · rename_i e; obtain ⟨x, q2, h3, h4⟩ := jl h2; obtain ⟨y, q3, h5, h6⟩ := jl h4; cases h6; refine ⟨⟨deep _, jaG hk hd ?_ fun hk2 => absurd hk2 (two [])⟩, zD (j8 h5) (jbB h3 a1)⟩; unfold qa; rw [if_neg (by simp [jbj]), if_neg (by simp only; omega), if_pos (by simp only; omega)]; rfl
          · rename_i n567; obtain ⟨y, q3, h5, h6⟩ := jl h2; cases h6; refine ⟨⟨deep _, jaG hk hd ?_ fun hk2 => absurd hk2 (two [])⟩, zD (j8 h5) a1⟩; unfold qa; rw [if_neg (by simp [jbj]), if_neg (by simp only; omega), if_neg (by simp only; omega)]; rfl
    | false =>
      have hd := hbd rfl; unfold cmdP at h; obtain ⟨t, q1, h1, h2⟩ := jl h; obtain ⟨th, q2, h3, h4⟩ := jl h2; obtain ⟨⟨t1, t2⟩, a1⟩ := jjw _ _ _ _ _ h1 ha; have hfb : ∀ r x q, cmdP n true (d + 1) r = .ok (x, q) → AllOk r → ValC n (d + 1) x ∧ AllOk q := fun r x q h ha => ih true (d + 1) r x q (fun hf => by cases hf) h ha
      obtain ⟨a2, v2⟩ := jcE hfb h3 a1; have done : ∀ (els : List Cmd), (∀ x ∈ els, DeepC (n + 1) x) → (match zj els with | some x => ∀ m, jm m d x = 0 | none => ∀ x ∈ els, ∀ m, jm m (d + 1) x = 0) → ValC (n + 1) d ⟨2, [], t, th, els⟩ := by
        intro els h1 h2; refine ⟨⟨DeepT.more _ _ _ (by omega) t1, fun x hx => (v2 x hx).1, h1⟩, jaG rfl hd (by unfold qa; rw [if_neg (by simp), if_neg (by simp), if_neg (by simp)]; rfl) fun _ => ⟨t2, fun x hx m => (v2 x hx).2 m, h2⟩⟩
      split at h4
      · rename_i q0 hs; obtain ⟨z, q3, h5, h6⟩ := jl h4; cases h6; obtain ⟨⟨z1, z2⟩, a3⟩ := ih false d q0 z q (fun _ => hd) h5 (zD hs a2); have hz := jiR _ _ _ _ _ h5; refine ⟨done _ (fun x hx => by simp at hx; rw [hx]; exact z1) ?_, a3⟩; rw [show zj [z] = some z from by simp [zj, hz]]; exact z2
      · split at h4
        · rename_i q0 hs; obtain ⟨el, q3, h5, h6⟩ := jl h4; cases h6; obtain ⟨a3, v3⟩ := jcE hfb h5 (zD hs a2); refine ⟨done _ (fun x hx => (v3 x hx).1) ?_, a3⟩; cases he : zj el with
          | some x =>
            obtain ⟨hx, _⟩ := zI he; exact fun m => jkc m d x ((v3 x (by rw [hx]; simp)).2 m)
          | none => exact fun x hx m => (v3 x hx).2 m
        · cases h4; exact ⟨done _ (fun x hx => by cases hx) (fun x hx => by cases hx), a2⟩
def errN {A : Type} (x : Rdg A) : Prop := ∀ m, x = .error m → m.2 ≠ 0
theorem zf {A : Type} (y : A × List Tok) : errN (.ok y : Rdg A) := fun m h => by cases h
theorem jC {A B : Type} {x : Rdg A} {f : A → List Tok → Rdg B} (h : errN x) (k : ∀ a q, x = .ok (a, q) → errN (f a q)) : errN (jv x f) := by
  intro m hm; cases hx : x with
  | error e => rw [hx] at hm; cases hm; exact h _ hx
  | ok y => obtain ⟨a, q⟩ := y; rw [hx] at hm; exact k a q hx m hm
theorem jj8 (r : List Tok) : (misP r).2 ≠ 0 := by unfold misP; simp only; split <;> decide
theorem vB {A : Type} (r : List Tok) : errN (.error (misP r) : Rdg A) := fun m h => by cases h; exact jj8 r
theorem ja4 (k : Int) (r : List Tok) : errN (qi k r) := by
  unfold qi; split
  · exact vB _
  · split
    · exact zf _
    · exact vB _
theorem zZ (k : Int) (s : List UInt8) (r : List Tok) : errN (jK k s r) := by
  unfold jK; split
  · exact zf _
  · exact vB _
theorem jaE (r : List Tok) : errN (zW r) := jC (ja4 _ _) fun _ _ _ => zf _
theorem jdN {A : Type} {f : List Tok → Rdg A} {N : Nat} (hf : ∀ r, r.length < N → errN (f r)) (hl : ∀ r x q, f r = .ok (x, q) → q.length ≤ r.length) : ∀ (n : Nat) (acc : List A) (r : List Tok), r.length ≤ N → errN (qo f n acc r) := by
  intro n
  induction n with
  | zero => intro acc r _; exact zf _
  | succ n ih =>
    intro acc r hr; unfold qo; split
    · exact zf _
    · rename_i q hs; have := jQ hs; exact jC (hf q (by omega)) fun x q' h => ih _ _ (by have := hl _ _ _ h; omega)
theorem jaD (r : List Tok) : errN (zd r) := by
  unfold zd; split
  · exact jC (jaE _) fun _ _ _ => zf _
  · exact jC (jaE _) fun x q1 _ => jC (jdN (N := q1.length + 1) (fun r _ => jaE r) (fun _ _ _ h => Nat.le_of_lt (vb h)) _ _ _ (by omega)) fun _ _ _ => jC (zZ _ _ _) fun _ _ _ => zf _
theorem jd9 (k d : Nat) (r : List Tok) : errN (qW k d r) := by
  unfold qW; split
  · intro m h; cases h; simp
  · split
    · exact vB _
    · split
      · exact zf _
      · exact vB _
theorem jhz (b : Bool) : ∀ (r : List Tok) (m p : Nat), errN (zi b r m p) := by
  intro r
  induction r with
  | nil => intro m p; unfold zi; exact zf _
  | cons t r ih =>
    intro m p; unfold zi; split
    · split
      · exact ih _ _
      · split
        · exact ih _ _
        · exact vB _
    · exact zf _
theorem jgi (r : List Tok) : errN (zG r) := by
  unfold zG; split
  · exact jC (ja4 _ _) fun _ _ _ => zf _
  · exact jC (zZ _ _ _) fun _ _ _ => jC (ja4 _ _) fun _ _ _ => zf _
theorem jgQ : ∀ (n d : Nat) (r : List Tok), r.length < n → errN (jJ n d r) := by
  intro n
  induction n with
  | zero => intro d r h; omega
  | succ n ih =>
    intro d r hr; unfold jJ; refine jC (jd9 _ _ _) fun k q hk => ?_
    have hq := vp hk; split
    · exact jC (ih _ _ (by omega)) fun _ _ _ => zf _
    · split
      · refine jC ?_ fun _ _ _ => zf _
        unfold zH; refine jC (zZ _ _ _) fun u q1 h1 => ?_
        have l1 := jQ (j8 h1); refine jC (ih _ _ (by omega)) fun x q2 h2 => ?_
        have l2 := qD _ _ _ _ _ h2; exact jC (jdN (N := n) (fun r hr => ih _ r hr) (fun _ _ _ h => Nat.le_of_lt (qD _ _ _ _ _ h)) _ _ _ (by omega)) fun _ _ _ => jC (zZ _ _ _) fun _ _ _ => zf _
      · split
        · exact jC (jhz _ _ _ _) fun _ _ _ => jC (jaD _) fun _ _ _ => jC (jaD _) fun _ _ _ => zf _
        · split
          · exact jC (jaD _) fun _ _ _ => zf _
          · split
            · exact jC (jgi _) fun _ _ _ => zf _
            · exact zf _
theorem jgq {f : List Tok → Rdg Cmd} {N : Nat} (hf : ∀ r, r.length < N → errN (f r)) (hl : ∀ r x q, f r = .ok (x, q) → q.length < r.length) : ∀ (n : Nat) (acc : List Cmd) (r : List Tok), r.length < N → r.length < n → errN (zP f n acc r) := by
  intro n
  induction n with
  | zero => intro acc r _ h; omega
  | succ n ih =>
    intro acc r hr hn; unfold zP; split
    · exact zf _
    · split
      · exact vB _
      · exact jC (hf r hr) fun x q' h => by
          have := hl _ _ _ h; exact ih _ _ (by omega) (by omega)
theorem jbK {f : List Tok → Rdg Cmd} {N : Nat} (hf : ∀ r, r.length < N → errN (f r)) (hl : ∀ r x q, f r = .ok (x, q) → q.length < r.length) (r : List Tok) (hr : r.length ≤ N) : errN (zx f r) :=
  jC (zZ _ _ _) fun u q h => by
    have := jQ (j8 h); exact jgq hf hl _ _ _ (by omega) (by omega)
theorem jiK : ∀ (n : Nat) (b : Bool) (d : Nat) (r : List Tok), r.length + 1 < n → errN (cmdP n b d r) := by
  intro n
  induction n with
  | zero => intro b d r h; omega
  | succ n ih =>
    intro b d r hr; have hb : ∀ r, r.length < n - 1 → errN (cmdP n true (d + 1) r) := fun r hr => ih true (d + 1) r (by omega)
    have hl : ∀ r x q, cmdP n true (d + 1) r = .ok (x, q) → q.length < r.length := fun r x q h => jak _ _ _ _ _ _ h
    cases b with
    | true =>
      unfold cmdP; refine jC (jd9 _ _ _) fun k q hk => ?_
      have hq := vp hk; split
      · exact ih _ _ _ (by omega)
      · split
        · exact jC (jaD _) fun _ _ _ => jC (zZ _ _ _) fun _ _ _ => zf _
        · split
          · exact jC (jaE _) fun _ _ _ => jC (zZ _ _ _) fun _ _ _ => zf _
          · exact jC (zZ _ _ _) fun _ _ _ => zf _
    | false =>
      unfold cmdP; refine jC (jgQ _ _ _ (by omega)) fun t q1 h1 => ?_
      have l1 := qD _ _ _ _ _ h1; refine jC (jbK hb hl _ (by omega)) fun th q2 h2 => ?_
      have l2 := jai (fun _ _ _ h => Nat.le_of_lt (hl _ _ _ h)) h2; split
      · rename_i q3 hs; have := jQ hs; exact jC (ih _ _ _ (by omega)) fun _ _ _ => zf _
      · split
        · rename_i q3 hs; have := jQ hs; exact jC (jbK hb hl _ (by omega)) fun _ _ _ => zf _
        · exact zf _
theorem jeH (l : List Tok) : errN (zy l) := by
  have : ∀ (n : Nat) (acc : List Cmd) (r : List Tok), r.length ≤ l.length → errN (zv (cmdP (l.length + 2) true 0) n acc r) := by
    intro n
    induction n with
    | zero => intro acc r _; exact zf _
    | succ n ih =>
      intro acc r hr; unfold zv; split
      · exact zf _
      · exact jC (jiK _ _ _ _ (by omega)) fun x q h => by
          have := jak _ _ _ _ _ _ h; exact ih _ _ (by omega)
  exact this _ _ _ (Nat.le_refl _)
theorem jjQ {l : List Tok} {m : Nat × Int} (h : zy l = .error m) : m.2 ≠ 0 := jeH l m h
def jjO (t : Tok) : Prop := t.kind = 1 ∨ t.kind = 2 → t.text.length ≤ 16
def AllS (l : List Tok) : Prop := ∀ t ∈ l, jjO t
theorem AllS.app {a b : List Tok} (h : AllS a) (k : AllS b) : AllS (a ++ b) := fun t ht => by
  rcases List.mem_append.1 ht with e | e
  · exact h t e
  · exact k t e
theorem AllS.cons {t : Tok} {b : List Tok} (h : jjO t) (k : AllS b) : AllS (t :: b) := fun x hx => by
  rcases List.mem_cons.1 hx with e | e
  · rw [e]; exact h
  · exact k x e
theorem jis : AllS [] := fun t h => by cases h
theorem AllS.flat {A : Type} {g : A → List Tok} {l : List A} (h : ∀ x ∈ l, AllS (g x)) : AllS (l.flatMap g) := fun t ht => by
  obtain ⟨x, hx, hxt⟩ := List.mem_flatMap.1 ht; exact h x hx t hxt
theorem AllS.sep {A : Type} {g : A → List Tok} {l : List A} (h : ∀ x ∈ l, AllS (g x)) : AllS (sepT g l) := by
  cases l with
  | nil => exact jis
  | cons x l => exact AllS.app (h x (by simp)) (AllS.flat fun y hy => AllS.cons (fun _ => by decide) (h y (by simp [hy])))
theorem jhU {l : List Tok} {cs : List Cmd} {i : Int} (h : zp l = (cs, i, 0)) : i = 0 ∧ zy l = .ok (cs, []) ∧ AllOk l ∧ l.length ≤ 400 ∧ ∀ x ∈ cs, DeepC (l.length + 3) x ∧ ∀ m, jm m 0 x = 0 := by
  unfold zp at h
  by_cases hl : 400 < l.length
  · rw [if_pos hl] at h; cases h
  · rw [if_neg hl] at h; cases hb : vj l 0 with
    | some y =>
      obtain ⟨j, e⟩ := y; rw [hb] at h; simp only [Prod.mk.injEq] at h
      exfalso
      have : ∀ (l : List Tok) (i j : Nat) (e : Int), vj l i = some (j, e) → e ≠ 0 := by
        intro l
        induction l with
        | nil => intro i j e h; cases h
        | cons t l ih =>
          intro i j e h; unfold vj at h
          by_cases ht : jO t = 0
          · rw [if_pos ht] at h; exact ih _ _ _ h
          · rw [if_neg ht] at h; cases h; exact ht
      exact this _ _ _ _ hb h.2.2
    | none =>
      rw [hb] at h; simp only at h; have hall := jh6 _ _ hb; have hloop : ∀ (n : Nat) (acc r' : List Cmd) (r q : List Tok), zv (cmdP (l.length + 2) true 0) n acc r = .ok (r', q) → AllOk r → r.length ≤ n → (∀ x ∈ acc, ValC (l.length + 2) 0 x) → q = [] ∧ ∀ x ∈ r', ValC (l.length + 2) 0 x := by
        intro n
        induction n with
        | zero =>
          intro acc r' r q h ha hr hv; cases h; exact ⟨List.length_eq_zero_iff.1 (by omega), hv⟩
        | succ n ih =>
          intro acc r' r q h ha hr hv; unfold zv at h; split at h
          · rename_i he; cases h; exact ⟨by simpa using he, hv⟩
          · obtain ⟨x, q1, h1, h2⟩ := jl h; obtain ⟨vx, a1⟩ := jkf _ _ _ _ _ _ (fun hf => by cases hf) h1 ha; have := jak _ _ _ _ _ _ h1; refine ih _ _ _ _ h2 a1 (by omega) fun y hy => ?_
            rcases List.mem_append.1 hy with e | e
            · exact hv y e
            · simp at e; rw [e]; exact vx
      cases hs : zy l with
      | error m =>
        rw [hs] at h; simp only [Prod.mk.injEq] at h
        exfalso
        exact jjQ hs h.2.2
      | ok y =>
        obtain ⟨c, q⟩ := y; rw [hs] at h; simp only [Prod.mk.injEq] at h; obtain ⟨rfl, rfl, _⟩ := h; obtain ⟨rfl, hv⟩ := hloop _ _ _ _ _ hs hall (Nat.le_refl _) (fun x hx => by cases hx); exact ⟨rfl, rfl, hall, by omega, fun x hx => ⟨(hv x hx).1, (hv x hx).2⟩⟩
end Go.Proofs.YthikilhhmianlaaGreatDoor
namespace Go.Proofs.YthikilhhmianlaaGreatDoor
open Go.RowKit
theorem jdu {A : Type} {Q : Nat → Prop} {k : Nat} {P : A → List Value → Prop} {w : World} {v : Value} {l : List A} (h : RowM Q k P w v l) {x : A} (hx : x ∈ l) : ∃ cs, P x cs := by
  obtain ⟨_, _, _, _, hr⟩ := h; obtain ⟨i, hi, rfl⟩ := List.getElem_of_mem hx; obtain ⟨_, _, cs, _, _, _, _, _, hP⟩ := hr i _ (List.getElem?_eq_getElem hi); exact ⟨cs, hP⟩
theorem jjK {Q : Nat → Prop} {w : World} : ∀ (n : Nat) (t : Tst) (cs : List Value), TstM Q n w t cs → DeepT n t := by
  intro n
  induction n with
  | zero => intro t cs h; exact h
  | succ n ih =>
    intro t cs h x hx; obtain ⟨_, _, _, _, _, _, h3⟩ := h; obtain ⟨cs', h'⟩ := jdu h3 hx; exact ih _ _ h'
theorem jiv {Q : Nat → Prop} {w : World} : ∀ (n : Nat) (c : Cmd) (cs : List Value), CmdM Q n w c cs → DeepC n c := by
  intro n
  induction n with
  | zero => intro c cs h; exact h
  | succ n ih =>
    intro c cs h; obtain ⟨_, _, _, _, _, _, _, _, h2, h3, h4⟩ := h; refine ⟨jjK _ _ _ h2, fun x hx => ?_, fun x hx => ?_⟩
    · obtain ⟨cs', h'⟩ := jdu h3 hx; exact ih _ _ h'
    · obtain ⟨cs', h'⟩ := jdu h4 hx; exact ih _ _ h'
theorem jhp {Q : Nat → Prop} {n : Nat} {w : World} {v : Value} {l : List Cmd} (h : CmdsM Q n w v l) : ∀ x ∈ l, DeepC n x := fun x hx => by
  obtain ⟨cs, h'⟩ := jdu h hx; exact jiv _ _ _ h'
end Go.Proofs.YthikilhhmianlaaGreatDoor
