/-
  Plain facts on tokens that the keeping laws lean on. No program is named here.
-/
import Derived.Test.YtdmiidbncpgfpabDoorTokPure
namespace Go.Proofs.YtdmiidbncpgfpabDoor
open Go.RowKit

theorem takeW_app {p : UInt8 → Bool} {l r : List UInt8} (h : ∀ c ∈ l, p c = true) (hr : ∀ c u, r = c :: u → p c = false) : (l ++ r).takeWhile p = l ∧ (l ++ r).dropWhile p = r := by
  constructor
  · rw [List.takeWhile_append_of_pos h]
    cases r with
    | nil => simp
    | cons c u => rw [List.takeWhile_cons, hr c u rfl]; simp
  · rw [List.dropWhile_append_of_pos h]
    cases r with
    | nil => simp
    | cons c u => rw [List.dropWhile_cons, hr c u rfl]; simp
theorem headW_word {r : List UInt8} (h : headW r = false) : ∀ c u, r = c :: u → wordyC c = false := by rintro c u rfl; exact h
theorem headW_digit {r : List UInt8} (h : headW r = false) : ∀ c u, r = c :: u → digitC c = false := by
  rintro c u rfl
  have : wordyC c = false := h
  unfold wordyC at this
  simp only [Bool.or_eq_false_iff] at this
  exact this.2
theorem headW_times {r : List UInt8} (h : headW r = false) : timesM r = (1, r) := by
  cases r with
  | nil => rfl
  | cons c u =>
    have : wordyC c = false := h
    show (if c = 75 ∨ c = 107 then _ else if c = 77 ∨ c = 109 then _ else _) = _
    rw [if_neg, if_neg]
    · rintro (rfl | rfl) <;> exact absurd this (by decide)
    · rintro (rfl | rfl) <;> exact absurd this (by decide)

/- Numbers. -/
theorem digit_of {n : Nat} (h : n < 10) : (UInt8.ofNat (48 + n)).toNat = 48 + n := UInt8.toNat_ofNat_of_lt' (by show 48 + n < 256; omega)
theorem decL_digits (n : Nat) : ∀ c ∈ decL n, digitC c = true := by
  induction n using Nat.strongRecOn with
  | _ n ih =>
    intro c hc
    rw [decL_eq] at hc
    split at hc
    · rename_i h
      rw [List.mem_singleton] at hc; subst hc
      unfold digitC; rw [digit_of h]; simp; omega
    · rcases List.mem_append.1 hc with hc | hc
      · exact ih (n / 10) (by omega) c hc
      · rw [List.mem_singleton] at hc; subst hc
        unfold digitC; rw [digit_of (Nat.mod_lt _ (by omega))]; simp; omega
theorem decV_snoc (l : List UInt8) (c : UInt8) : decV (l ++ [c]) = 10 * decV l + (c.toNat - 48) := by simp [decV]
theorem decV_decL (n : Nat) : decV (decL n) = n := by
  induction n using Nat.strongRecOn with
  | _ n ih =>
    rw [decL_eq]
    split
    · rename_i h
      simp only [decV, List.foldl_cons, List.foldl_nil, digit_of h]
      omega
    · rw [decV_snoc, ih (n / 10) (by omega), digit_of (Nat.mod_lt _ (by omega))]
      omega
theorem decL_ne (n : Nat) : decL n ≠ [] := by
  rw [decL_eq]; split <;> simp
theorem decL_len (n : Nat) : ∀ k, n < 10 ^ (k + 1) → (decL n).length ≤ k + 1 := by
  intro k
  induction k generalizing n with
  | zero => intro h; rw [decL_eq, if_pos (by simpa using h)]; simp
  | succ k ih =>
    intro h
    rw [decL_eq]
    split
    · simp
    · have := ih (n / 10) (by rw [Nat.pow_succ] at h; omega)
      simp; omega
theorem numM_dec (n : Nat) (hn : n ≤ 2147483647) {r : List UInt8} (hr : headW r = false) : numM (decL n ++ r) = .ok ({ kind := 3, text := [], num := n }, r) := by
  obtain ⟨e1, e2⟩ := takeW_app (decL_digits n) (headW_digit hr)
  unfold numM
  rw [e1, e2, headW_times hr]
  simp only [hr, Bool.false_eq_true, if_false, decV_decL]
  rw [if_neg (by omega)]
  simp
/- Quotes. -/
theorem strM_quote (l r : List UInt8) : strM false (quoteL l ++ 34 :: r) = some (l, r) := by
  induction l with
  | nil => simp [quoteL, strM]
  | cons c l ih =>
    have e : quoteL (c :: l) = (if c = 34 ∨ c = 92 then [92, c] else [c]) ++ quoteL l := by simp [quoteL]
    rw [e]
    by_cases h : c = 34 ∨ c = 92
    · rw [if_pos h]
      show strM false (92 :: c :: (quoteL l ++ 34 :: r)) = _
      rw [strM, if_neg (by decide), if_pos rfl, strM, ih]; rfl
    · rw [if_neg h]
      show strM false (c :: (quoteL l ++ 34 :: r)) = _
      rw [strM, if_neg (fun e => h (Or.inl e)), if_neg (fun e => h (Or.inr e)), ih]; rfl
theorem quoteL_len (l : List UInt8) : (quoteL l).length ≤ 2 * l.length := by
  induction l with
  | nil => simp [quoteL]
  | cons c l ih =>
    have e : quoteL (c :: l) = (if c = 34 ∨ c = 92 then [92, c] else [c]) ++ quoteL l := by simp [quoteL]
    rw [e]
    split <;> simp <;> omega

theorem mark_facts {c : UInt8} (h : markC c = true) : letterC c = false ∧ c ≠ 58 ∧ digitC c = false ∧ c ≠ 34 ∧ spaceC c = false ∧ c ≠ 35 ∧ c ≠ 47 := by
  unfold markC at h
  rw [List.contains_iff_mem] at h
  simp only [markL, List.mem_cons, List.not_mem_nil, or_false] at h
  rcases h with rfl | rfl | rfl | rfl | rfl | rfl | rfl | rfl <;> decide
theorem letter_facts {c : UInt8} (h : letterC c = true) : spaceC c = false ∧ c ≠ 35 ∧ c ≠ 47 := by
  refine ⟨?_, ?_, ?_⟩
  · cases e : spaceC c with
    | false => rfl
    | true =>
      unfold spaceC at e
      simp only [Bool.or_eq_true, beq_iff_eq] at e
      rcases e with ((rfl | rfl) | rfl) | rfl <;> exact absurd h (by decide)
  · rintro rfl; exact absurd h (by decide)
  · rintro rfl; exact absurd h (by decide)
theorem digit_facts {c : UInt8} (h : digitC c = true) : letterC c = false ∧ c ≠ 58 ∧ spaceC c = false ∧ c ≠ 35 ∧ c ≠ 47 := by
  have hh := h
  unfold digitC at h
  simp only [Bool.and_eq_true, decide_eq_true_eq] at h
  refine ⟨?_, ?_, ?_, ?_, ?_⟩
  · cases e : letterC c with
    | false => rfl
    | true =>
      unfold letterC at e
      simp only [Bool.or_eq_true, Bool.and_eq_true, decide_eq_true_eq, beq_iff_eq] at e
      rcases e with (e | e) | e
      · omega
      · omega
      · subst e; simp at h
  · rintro rfl; exact absurd hh (by decide)
  · cases e : spaceC c with
    | false => rfl
    | true =>
      unfold spaceC at e
      simp only [Bool.or_eq_true, beq_iff_eq] at e
      rcases e with ((rfl | rfl) | rfl) | rfl <;> exact absurd hh (by decide)
  · rintro rfl; exact absurd hh (by decide)
  · rintro rfl; exact absurd hh (by decide)
theorem kind_cases {t : Tok} (h : faultT t = 0) :
    (t.kind = 1 ∧ t.num = 0 ∧ wordB t.text = true) ∨ (t.kind = 2 ∧ t.num = 0 ∧ wordB t.text = true) ∨ (t.kind = 3 ∧ 0 ≤ t.num ∧ t.num ≤ 2147483647 ∧ t.text = []) ∨ (t.kind = 4 ∧ t.num = 0) ∨
      (t.kind = 5 ∧ t.num = 0 ∧ ∃ c, t.text = [c] ∧ markC c = true) := by
  unfold faultT at h
  split at h
  · cases h
  · rename_i hk
    split at h
    · rename_i h3
      split at h
      · cases h
      · rename_i hn
        split at h
        · cases h
        · rename_i ht
          exact Or.inr (Or.inr (Or.inl ⟨h3, by omega, by omega, by simpa using ht⟩))
    · split at h
      · cases h
      · rename_i h3 hn
        have hn' : t.num = 0 := by simpa using hn
        split at h
        · rename_i h5
          split at h
          · rename_i hm
            obtain ⟨hl, hm⟩ := hm
            obtain ⟨c, hc⟩ := List.length_eq_one_iff.1 hl
            refine Or.inr (Or.inr (Or.inr (Or.inr ⟨h5, hn', c, hc, ?_⟩)))
            rw [hc] at hm; simpa using hm
          · cases h
        · rename_i h5
          split at h
          · rename_i h4; exact Or.inr (Or.inr (Or.inr (Or.inl ⟨h4, hn'⟩)))
          · rename_i h4
            split at h
            · rename_i hw
              have : t.kind = 1 ∨ t.kind = 2 := by omega
              rcases this with h1 | h2
              · exact Or.inl ⟨h1, hn', hw⟩
              · exact Or.inr (Or.inl ⟨h2, hn', hw⟩)
            · cases h
theorem word_parts {l : List UInt8} (h : wordB l = true) : ∃ c u, l = c :: u ∧ letterC c = true ∧ ∀ x ∈ u, wordyC x = true := by
  unfold wordB at h
  simp only [Bool.and_eq_true, List.all_eq_true] at h
  cases l with
  | nil => simp at h
  | cons c u => exact ⟨c, u, rfl, by simpa using h.1, fun x hx => h.2 x (by simp [hx])⟩

/-- A token is cut off its text again, where no letter, digit or _ is right behind it. -/
theorem tokM_text {t : Tok} (h : faultT t = 0) {r : List UInt8} (hr : headW r = false) : tokM (textT t ++ r) = .ok (t, r) := by
  rcases kind_cases h with ⟨k, n, hw⟩ | ⟨k, n, hw⟩ | ⟨k, n0, n1, ht⟩ | ⟨k, n⟩ | ⟨k, n, c, hc, hm⟩
  · obtain ⟨c, u, hl, hc, hu⟩ := word_parts hw
    obtain ⟨e1, e2⟩ := takeW_app hu (headW_word hr)
    have et : textT t = c :: u := by unfold textT; rw [k]; simp [hl]
    rw [et]
    show tokM (c :: (u ++ r)) = _
    simp only [tokM, if_pos hc, e1, e2]
    cases t; simp_all
  · obtain ⟨c, u, hl, hc, hu⟩ := word_parts hw
    have hu' : ∀ x ∈ c :: u, wordyC x = true := fun x hx => by
      rcases List.mem_cons.1 hx with rfl | hx
      · unfold wordyC; rw [hc]; rfl
      · exact hu x hx
    obtain ⟨e1, e2⟩ := takeW_app hu' (headW_word hr)
    have et : textT t = 58 :: c :: u := by unfold textT; rw [k]; simp [hl]
    rw [et]
    show tokM (58 :: (c :: u ++ r)) = _
    simp only [tokM, if_neg (show ¬ letterC 58 = true by decide)]
    rw [if_pos (by simp [hc]), e1, e2]
    cases t; simp_all
  · have et : textT t = decL t.num.toNat := by unfold textT; rw [k]; simp
    have hh := numM_dec t.num.toNat (by omega) hr
    rw [et]
    cases e : decL t.num.toNat with
    | nil => exact absurd e (decL_ne _)
    | cons c u =>
      have hd := decL_digits t.num.toNat c (by rw [e]; simp)
      obtain ⟨f1, f2, _⟩ := digit_facts hd
      rw [e] at hh
      show tokM (c :: (u ++ r)) = _
      simp only [tokM, if_neg (show ¬ letterC c = true by rw [f1]; simp)]
      rw [if_neg (fun x => f2 x.1), if_pos hd]
      rw [show c :: (u ++ r) = c :: u ++ r from rfl, hh]
      have : ((t.num.toNat : Nat) : Int) = t.num := by omega
      cases t; simp_all
  · have et : textT t = 34 :: (quoteL t.text ++ [34]) := by unfold textT; rw [k]; simp
    rw [et]
    have e : 34 :: (quoteL t.text ++ [34]) ++ r = 34 :: (quoteL t.text ++ 34 :: r) := by simp
    rw [e]
    simp only [tokM, if_neg (show ¬ letterC 34 = true by decide)]
    rw [if_neg (by rintro ⟨x, _⟩; exact absurd x (by decide)), if_neg (by decide), if_pos (by trivial), strM_quote]
    cases t; simp_all
  · obtain ⟨f1, f2, f3, f4, _⟩ := mark_facts hm
    have et : textT t = [c] := by unfold textT; rw [k]; simp [hc]
    rw [et]
    show tokM (c :: r) = _
    simp only [tokM, if_neg (show ¬ letterC c = true by rw [f1]; simp)]
    rw [if_neg (fun x => f2 x.1), if_neg (by rw [f3]; simp), if_neg f4, if_pos hm]
    cases t; simp_all
theorem silM_text {t : Tok} (h : faultT t = 0) (r : List UInt8) : silM (textT t ++ r) = (true, textT t ++ r) ∧ textT t ++ r ≠ [] := by
  have key : ∀ (c : UInt8) (u : List UInt8), textT t = c :: u → spaceC c = false → c ≠ 35 → c ≠ 47 → silM (textT t ++ r) = (true, textT t ++ r) ∧ textT t ++ r ≠ [] := by
    intro c u e h1 h2 h3
    rw [e]
    exact ⟨silM_stop _ h1 h2 h3, by simp⟩
  rcases kind_cases h with ⟨k, n, hw⟩ | ⟨k, n, hw⟩ | ⟨k, n0, n1, ht⟩ | ⟨k, n⟩ | ⟨k, n, c, hc, hm⟩
  · obtain ⟨c, u, hl, hc, _⟩ := word_parts hw
    obtain ⟨f1, f2, f3⟩ := letter_facts hc
    exact key c u (by unfold textT; rw [k]; simp [hl]) f1 f2 f3
  · exact key 58 t.text (by unfold textT; rw [k]; simp) (by decide) (by decide) (by decide)
  · cases e : decL t.num.toNat with
    | nil => exact absurd e (decL_ne _)
    | cons c u =>
      obtain ⟨_, _, f1, f2, f3⟩ := digit_facts (decL_digits t.num.toNat c (by rw [e]; simp))
      exact key c u (by unfold textT; rw [k]; simp [e]) f1 f2 f3
  · exact key 34 (quoteL t.text ++ [34]) (by unfold textT; rw [k]; simp) (by decide) (by decide) (by decide)
  · obtain ⟨_, _, _, _, f1, f2, f3⟩ := mark_facts hm
    exact key c [] (by unfold textT; rw [k]; simp [hc]) f1 f2 f3

theorem begM_text {t : Tok} (h : faultT t = 0) (r : List UInt8) : begM (textT t ++ r) = true := by
  have key : ∀ (c : UInt8) (u : List UInt8), textT t = c :: u → (letterC c = true ∨ digitC c = true ∨ c = 34 ∨ markC c = true) → begM (textT t ++ r) = true := by
    intro c u e h1
    rw [e]
    show (letterC c || (c == 58 && _) || digitC c || c == 34 || markC c) = true
    rcases h1 with h1 | h1 | h1 | h1 <;> simp [h1]
  rcases kind_cases h with ⟨k, n, hw⟩ | ⟨k, n, hw⟩ | ⟨k, n0, n1, ht⟩ | ⟨k, n⟩ | ⟨k, n, c, hc, hm⟩
  · obtain ⟨c, u, hl, hc, _⟩ := word_parts hw
    exact key c u (by unfold textT; rw [k]; simp [hl]) (Or.inl hc)
  · obtain ⟨c, u, hl, hc, _⟩ := word_parts hw
    have et : textT t = 58 :: c :: u := by unfold textT; rw [k]; simp [hl]
    rw [et]
    show (letterC 58 || ((58 : UInt8) == 58 && (((c :: u ++ r).head?).map letterC).getD false) || digitC 58 || (58 : UInt8) == 34 || markC 58) = true
    simp [hc]
  · cases e : decL t.num.toNat with
    | nil => exact absurd e (decL_ne _)
    | cons c u => exact key c u (by unfold textT; rw [k]; simp [e]) (Or.inr (Or.inl (decL_digits t.num.toNat c (by rw [e]; simp))))
  · exact key 34 (quoteL t.text ++ [34]) (by unfold textT; rw [k]; simp) (Or.inr (Or.inr (Or.inl rfl)))
  · exact key c [] (by unfold textT; rw [k]; simp [hc]) (Or.inr (Or.inr (Or.inr hm)))

/-- What says nothing, whatever is behind it. -/
def Sil (b : List UInt8) : Prop := ∀ r, silM (b ++ r) = silM r
theorem sil_nil : Sil [] := fun _ => rfl
theorem sil_space {c : UInt8} (h : spaceC c = true) : Sil [c] := fun r => silM_space r h
theorem sil_app {a b : List UInt8} (ha : Sil a) (hb : Sil b) : Sil (a ++ b) := fun r => by rw [List.append_assoc, ha, hb]
theorem lineEnd_app {l r : List UInt8} (h : 10 ∉ l) : lineEnd (l ++ 10 :: r) = 10 :: r := by
  unfold lineEnd
  rw [List.dropWhile_append_of_pos (fun c hc => by simp; rintro rfl; exact h hc)]
  simp
theorem sil_hash {l : List UInt8} (h : 10 ∉ l) : Sil (35 :: l ++ [10]) := fun r => by
  show silM (35 :: (l ++ [10] ++ r)) = _
  rw [silM_hash, List.append_assoc]
  show silM (lineEnd (l ++ 10 :: r)) = _
  rw [lineEnd_app h, silM_space _ (by decide)]
theorem comEnd_app {l r : List UInt8} (h : 42 ∉ l) : comEnd (l ++ 42 :: 47 :: r) = some r := by
  induction l with
  | nil => simp [comEnd]
  | cons c l ih =>
    simp only [List.mem_cons, not_or] at h
    cases l with
    | nil =>
      show comEnd (c :: 42 :: 47 :: r) = _
      rw [comEnd, if_neg (fun e => h.1 e.1.symm)]
      simp [comEnd]
    | cons d l =>
      show comEnd (c :: d :: (l ++ 42 :: 47 :: r)) = _
      rw [comEnd, if_neg (fun e => h.1 e.1.symm)]
      exact ih h.2
theorem sil_com {l : List UInt8} (h : 42 ∉ l) : Sil (47 :: 42 :: l ++ [42, 47]) := fun r => by
  show silM (47 :: 42 :: (l ++ [42, 47] ++ r)) = _
  have e : l ++ [42, 47] ++ r = l ++ 42 :: 47 :: r := by simp
  rw [e, silM_com (comEnd_app h)]

theorem cutP_sil {s s' : List UInt8} (h : silM s = silM s') (k : Nat) : cutP k s = cutP k s' := by rw [cutP_eq, cutP_eq k s', h]
theorem cutP_nil (k : Nat) : cutP k [] = .ok [] := by rw [cutP_eq, silM_nil]; simp
theorem cutP_text {t : Tok} (h : faultT t = 0) {r : List UInt8} (hr : headW r = false) {k : Nat} (hk : k ≠ 400) : cutP k (textT t ++ r) = (match cutP (k + 1) r with | .error e => .error e | .ok l => .ok (t :: l)) := by
  obtain ⟨h1, h2⟩ := silM_text h r
  rw [cutP_eq, h1]
  simp only [Bool.true_eq_false, if_false, if_neg h2, if_neg hk, tokM_text h hr]
  rfl
theorem cutP_full {t : Tok} (h : faultT t = 0) (r : List UInt8) : cutP 400 (textT t ++ r) = .error ((textT t ++ r).length, 5) := by
  obtain ⟨h1, h2⟩ := silM_text h r
  rw [cutP_eq, h1]
  simp only [Bool.true_eq_false, if_false, if_neg h2, if_true, begM_text h r]

/-- Tokens, each with something silent behind it. -/
def flatT (xs : List (Tok × List UInt8)) : List UInt8 := (xs.map fun x => textT x.1 ++ x.2).flatten
def between (b : List UInt8) : Prop := Sil b ∧ ∃ c u, b = c :: u ∧ wordyC c = false
theorem cut_many (xs : List (Tok × List UInt8)) (hx : ∀ x ∈ xs, faultT x.1 = 0 ∧ between x.2) (tail : List UInt8) : ∀ k, k + xs.length ≤ 400 →
    cutP k (flatT xs ++ tail) = (match cutP (k + xs.length) tail with | .error e => .error e | .ok l => .ok (xs.map (·.1) ++ l)) := by
  induction xs with
  | nil => intro k _; simp [flatT]; cases cutP k tail <;> rfl
  | cons x xs ih =>
    intro k hk
    obtain ⟨h1, h2, c, u, h3, h4⟩ := hx x (by simp)
    have e : flatT (x :: xs) ++ tail = textT x.1 ++ (x.2 ++ (flatT xs ++ tail)) := by simp [flatT]
    have hr : headW (x.2 ++ (flatT xs ++ tail)) = false := by rw [h3]; exact h4
    simp only [List.length_cons] at hk
    rw [e, cutP_text h1 hr (by omega), cutP_sil (h2 _), ih (fun y hy => hx y (by simp [hy])) (k + 1) (by omega)]
    have e2 : k + 1 + xs.length = k + (x :: xs).length := by simp; omega
    rw [e2]
    cases cutP (k + (x :: xs).length) tail <;> rfl
theorem cut_all {xs : List (Tok × List UInt8)} (hx : ∀ x ∈ xs, faultT x.1 = 0 ∧ between x.2) (hn : xs.length ≤ 400) (hs : (flatT xs).length ≤ 2000) : cutM (flatT xs) = (xs.map (·.1), 0, 0) := by
  have := cut_many xs hx [] 0 (by omega)
  rw [List.append_nil, cutP_nil] at this
  unfold cutM
  rw [if_neg (by omega), this]
  simp
theorem cut_bad {xs : List (Tok × List UInt8)} (hx : ∀ x ∈ xs, faultT x.1 = 0 ∧ between x.2) (hn : xs.length ≤ 399) {tail : List UInt8} {e : Int} (ht : ∀ k, k ≠ 400 → cutP k tail = .error (tail.length, e)) (hs : (flatT xs ++ tail).length ≤ 2000) :
    cutM (flatT xs ++ tail) = ([], ((flatT xs).length : Int), e) := by
  have := cut_many xs hx tail 0 (by omega)
  rw [ht _ (by omega)] at this
  unfold cutM
  rw [if_neg (by omega), this]
  simp

/- Join. -/
theorem join_lawful (ts : List Tok) (h : ∀ t ∈ ts, faultT t = 0) : ∀ acc : List UInt8, (acc ++ flatT (ts.map fun t => (t, [32]))).length ≤ 2000 → joinP acc ts = .ok (acc ++ flatT (ts.map fun t => (t, [32]))) := by
  induction ts with
  | nil => intro acc _; simp [joinP, flatT]
  | cons t ts ih =>
    intro acc hl
    have e : acc ++ flatT ((t :: ts).map fun t => (t, [32])) = (acc ++ textT t ++ [32]) ++ flatT (ts.map fun t => (t, [32])) := by simp [flatT]
    rw [e] at hl ⊢
    rw [joinP, if_neg (by simpa using h t (by simp)), if_neg (by rw [List.length_append] at hl; omega)]
    exact ih (fun x hx => h x (by simp [hx])) _ hl
theorem joinM_lawful {ts : List Tok} (h : ∀ t ∈ ts, faultT t = 0) (hn : ts.length ≤ 400) (hl : (flatT (ts.map fun t => (t, [32]))).length ≤ 2000) : joinM ts = (flatT (ts.map fun t => (t, [32])), 0) := by
  unfold joinM
  rw [if_neg (by omega), join_lawful ts h [] (by simpa using hl)]
  simp
theorem between_blank : between [32] := ⟨sil_space (by decide), 32, [], rfl, by decide⟩
/-- TokenBack. -/
theorem back_lawful {ts : List Tok} (h : ∀ t ∈ ts, faultT t = 0) (hn : ts.length ≤ 400) (hl : (flatT (ts.map fun t => (t, [32]))).length ≤ 2000) : cutM (joinM ts).1 = (ts, 0, 0) := by
  rw [joinM_lawful h hn hl]
  have := cut_all (xs := ts.map fun t => (t, [32])) (fun x hx => by obtain ⟨t, ht, rfl⟩ := List.mem_map.1 hx; exact ⟨h t ht, between_blank⟩) (by simpa using hn) hl
  rw [this, List.map_map]
  congr 1
  conv => rhs; rw [← List.map_id ts]
  rfl
end Go.Proofs.YtdmiidbncpgfpabDoor
