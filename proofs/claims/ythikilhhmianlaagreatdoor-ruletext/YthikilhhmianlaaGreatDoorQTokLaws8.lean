/-
  Plain facts on tokens that the keeping laws lean on. No program is named here.
  Plain facts on addresses: what may be in an atom, what is dotted, how a list of addresses is read. No program is named here.
  Plain facts on lists of addresses that the keeping laws lean on. No program is named here.
  Plain facts on addresses: what is read of a list may be. No program is named here.
  Plain facts on scripts that are allowed: flags, names of boxes, what is required. No program is named here.
  Plain facts on the tests and commands that the laws make: they may be, and are short.
  A script is read from its text: plain facts. What is shown and joined is cut and parsed as it was; with a mark more it is not.
  Plain facts on texts of lists of bytes (empty or not, their pieces) and on worlds. No program is named here.
  A token in a block of its own, as the walks of package token make it.
  Rows of tokens in memory, and those that a call has made.
  Plain facts on tokens, as the program reads them: gaps by the library's Cut, kinds of what begins. No program is named here.
  What the small functions of package token do (digits, letters, spans): the walks.
-/
import Derived.Test.YthikilhhmianlaaGreatDoorQPure4
import Derived.WalkKit
import Derived.Test.YthikilhhmianlaaGreatDoorScrBk
import Derived.Lib.Strings
import Derived.Below
import Derived.Deep.Draws
import Derived.Test.YthikilhhmianlaaGreatDoorRows
import Derived.WalkSpells
import Derived.WalkLawsBesides
import Derived.Shelf.Abstract
import Derived.Laws.IdiomStrings
import Derived.Lib.IndexLaws
namespace Go.Proofs.YthikilhhmianlaaGreatDoor
open Go.RowKit
theorem jbT {p : UInt8 → Bool} {l r : List UInt8} (h : ∀ c ∈ l, p c = true) (hr : ∀ c u, r = c :: u → p c = false) : (l ++ r).takeWhile p = l ∧ (l ++ r).dropWhile p = r := by
  constructor
  · rw [List.takeWhile_append_of_pos h]; cases r with
    | nil => simp
    | cons c u => rw [List.takeWhile_cons, hr c u rfl]; simp
  · rw [List.dropWhile_append_of_pos h]; cases r with
    | nil => simp
    | cons c u => rw [List.dropWhile_cons, hr c u rfl]; simp
theorem jcD {r : List UInt8} (h : vK r = false) : ∀ c u, r = c :: u → jH c = false := by rintro c u rfl; exact h
theorem jfc {r : List UInt8} (h : vK r = false) : ∀ c u, r = c :: u → jr c = false := by
  rintro c u rfl; have : jH c = false := h; unfold jH at this; simp only [Bool.or_eq_false_iff] at this; exact this.2
theorem jez {r : List UInt8} (h : vK r = false) : zE r = (1, r) := by
  cases r with
  | nil => rfl
  | cons c u =>
    have : jH c = false := h
    show (if c = 75 ∨ c = 107 then _ else if c = 77 ∨ c = 109 then _ else _) = _
    rw [if_neg, if_neg]
    · rintro (rfl | rfl) <;> exact absurd this (by decide)
    · rintro (rfl | rfl) <;> exact absurd this (by decide)
theorem jbJ {n : Nat} (h : n < 10) : (UInt8.ofNat (48 + n)).toNat = 48 + n := UInt8.toNat_ofNat_of_lt' (by show 48 + n < 256; omega)
theorem vz (n : Nat) : ∀ c ∈ decL n, jr c = true := by
  induction n using Nat.strongRecOn with
  | _ n ih =>
    intro c hc; rw [jcj] at hc; split at hc
    · rename_i h; rw [List.mem_singleton] at hc; subst hc; unfold jr; rw [jbJ h]; simp; omega
    · rcases List.mem_append.1 hc with hc | hc
      · exact ih (n / 10) (by omega) c hc
      · rw [List.mem_singleton] at hc; subst hc; unfold jr; rw [jbJ (Nat.mod_lt _ (by omega))]; simp; omega
theorem jek (l : List UInt8) (c : UInt8) : decV (l ++ [c]) = 10 * decV l + (c.toNat - 48) := by simp [decV]
theorem jhE (n : Nat) : decV (decL n) = n := by
  induction n using Nat.strongRecOn with
  | _ n ih =>
    rw [jcj]; split
    · rename_i h; simp only [decV, List.foldl_cons, List.foldl_nil, jbJ h]; omega
    · rw [jek, ih (n / 10) (by omega), jbJ (Nat.mod_lt _ (by omega))]; omega
theorem je7 (n : Nat) : decL n ≠ [] := by
  rw [jcj]; split <;> simp
theorem jja (n : Nat) : ∀ k, n < 10 ^ (k + 1) → (decL n).length ≤ k + 1 := by
  intro k
  induction k generalizing n with
  | zero => intro h; rw [jcj, if_pos (by simpa using h)]; simp
  | succ k ih =>
    intro h; rw [jcj]; split
    · simp
    · have := ih (n / 10) (by rw [Nat.pow_succ] at h; omega)
      simp; omega
theorem jiW (n : Nat) (hn : n ≤ 2147483647) {r : List UInt8} (hr : vK r = false) : numM (decL n ++ r) = .ok ({ kind := 3, text := [], num := n }, r) := by
  obtain ⟨e1, e2⟩ := jbT (vz n) (jfc hr); unfold numM; rw [e1, e2, jez hr]; simp only [hr, Bool.false_eq_true, if_false, jhE]; rw [if_neg (by omega)]
  simp
theorem jfY (l r : List UInt8) : strM false (zn l ++ 34 :: r) = some (l, r) := by
  induction l with
  | nil => simp [zn, strM]
  | cons c l ih =>
    have e : zn (c :: l) = (if c = 34 ∨ c = 92 then [92, c] else [c]) ++ zn l := by simp [zn]
    rw [e]
    by_cases h : c = 34 ∨ c = 92
    · rw [if_pos h]
      show strM false (92 :: c :: (zn l ++ 34 :: r)) = _
      rw [strM, if_neg (by decide), if_pos rfl, strM, ih]; rfl
    · rw [if_neg h]
      show strM false (c :: (zn l ++ 34 :: r)) = _
      rw [strM, if_neg (fun e => h (Or.inl e)), if_neg (fun e => h (Or.inr e)), ih]; rfl
theorem jcI (l : List UInt8) : (zn l).length ≤ 2 * l.length := by
  induction l with
  | nil => simp [zn]
  | cons c l ih =>
    have e : zn (c :: l) = (if c = 34 ∨ c = 92 then [92, c] else [c]) ++ zn l := by simp [zn]
    rw [e]; split <;> simp <;> omega
theorem jcU {c : UInt8} (h : vy c = true) : jF c = false ∧ c ≠ 58 ∧ jr c = false ∧ c ≠ 34 ∧ zl c = false ∧ c ≠ 35 ∧ c ≠ 47 := by
  unfold vy at h; rw [List.contains_iff_mem] at h; simp only [markL, List.mem_cons, List.not_mem_nil, or_false] at h
  rcases h with rfl | rfl | rfl | rfl | rfl | rfl | rfl | rfl <;> decide
theorem jdU {c : UInt8} (h : jF c = true) : zl c = false ∧ c ≠ 35 ∧ c ≠ 47 := by
  refine ⟨?_, ?_, ?_⟩
  · cases e : zl c with
    | false => rfl
    | true =>
      unfold zl at e; simp only [Bool.or_eq_true, beq_iff_eq] at e
      rcases e with ((rfl | rfl) | rfl) | rfl <;> exact absurd h (by decide)
  · rintro rfl; exact absurd h (by decide)
  · rintro rfl; exact absurd h (by decide)
theorem jcn {c : UInt8} (h : jr c = true) : jF c = false ∧ c ≠ 58 ∧ zl c = false ∧ c ≠ 35 ∧ c ≠ 47 := by
  have hh := h; unfold jr at h; simp only [Bool.and_eq_true, decide_eq_true_eq] at h; refine ⟨?_, ?_, ?_, ?_, ?_⟩
  · cases e : jF c with
    | false => rfl
    | true =>
      unfold jF at e; simp only [Bool.or_eq_true, Bool.and_eq_true, decide_eq_true_eq, beq_iff_eq] at e
      rcases e with (e | e) | e
      · omega
      · omega
      · subst e; simp at h
  · rintro rfl; exact absurd hh (by decide)
  · cases e : zl c with
    | false => rfl
    | true =>
      unfold zl at e; simp only [Bool.or_eq_true, beq_iff_eq] at e
      rcases e with ((rfl | rfl) | rfl) | rfl <;> exact absurd hh (by decide)
  · rintro rfl; exact absurd hh (by decide)
  · rintro rfl; exact absurd hh (by decide)
theorem qC {t : Tok} (h : jO t = 0) :
    (t.kind = 1 ∧ t.num = 0 ∧ jao t.text = true) ∨ (t.kind = 2 ∧ t.num = 0 ∧ jao t.text = true) ∨ (t.kind = 3 ∧ 0 ≤ t.num ∧ t.num ≤ 2147483647 ∧ t.text = []) ∨ (t.kind = 4 ∧ t.num = 0) ∨
      (t.kind = 5 ∧ t.num = 0 ∧ ∃ c, t.text = [c] ∧ vy c = true) := by
  unfold jO at h; split at h
  · cases h
  · rename_i hk; split at h
    · rename_i h3; split at h
      · cases h
      · rename_i hn; split at h
        · cases h
        · rename_i ht; exact Or.inr (Or.inr (Or.inl ⟨h3, by omega, by omega, by simpa using ht⟩))
    · split at h
      · cases h
      · rename_i h3 hn; have hn' : t.num = 0 := by simpa using hn
        split at h
        · rename_i h5; split at h
          · rename_i hm; obtain ⟨hl, hm⟩ := hm; obtain ⟨c, hc⟩ := List.length_eq_one_iff.1 hl; refine Or.inr (Or.inr (Or.inr (Or.inr ⟨h5, hn', c, hc, ?_⟩))); rw [hc] at hm; simpa using hm
          · cases h
        · rename_i h5; split at h
          · rename_i h4; exact Or.inr (Or.inr (Or.inr (Or.inl ⟨h4, hn'⟩)))
          · rename_i h4; split at h
            · rename_i hw; have : t.kind = 1 ∨ t.kind = 2 := by omega
              rcases this with h1 | h2
              · exact Or.inl ⟨h1, hn', hw⟩
              · exact Or.inr (Or.inl ⟨h2, hn', hw⟩)
            · cases h
theorem vd {l : List UInt8} (h : jao l = true) : ∃ c u, l = c :: u ∧ jF c = true ∧ ∀ x ∈ u, jH x = true := by
  unfold jao at h; simp only [Bool.and_eq_true, List.all_eq_true] at h; cases l with
  | nil => simp at h
  | cons c u => exact ⟨c, u, rfl, by simpa using h.1, fun x hx => h.2 x (by simp [hx])⟩
theorem jig {t : Tok} (h : jO t = 0) {r : List UInt8} (hr : vK r = false) : tokM (jS t ++ r) = .ok (t, r) := by
  rcases qC h with ⟨k, n, hw⟩ | ⟨k, n, hw⟩ | ⟨k, n0, n1, ht⟩ | ⟨k, n⟩ | ⟨k, n, c, hc, hm⟩
  · obtain ⟨c, u, hl, hc, hu⟩ := vd hw; obtain ⟨e1, e2⟩ := jbT hu (jcD hr); have et : jS t = c :: u := by unfold jS; rw [k]; simp [hl]
    rw [et]
    show tokM (c :: (u ++ r)) = _
    simp only [tokM, if_pos hc, e1, e2]; cases t; simp_all
  · obtain ⟨c, u, hl, hc, hu⟩ := vd hw; have hu' : ∀ x ∈ c :: u, jH x = true := fun x hx => by
      rcases List.mem_cons.1 hx with rfl | hx
      · unfold jH; rw [hc]; rfl
      · exact hu x hx
    obtain ⟨e1, e2⟩ := jbT hu' (jcD hr); have et : jS t = 58 :: c :: u := by unfold jS; rw [k]; simp [hl]
    rw [et]
    show tokM (58 :: (c :: u ++ r)) = _
    simp only [tokM, if_neg (show ¬ jF 58 = true by decide)]; rw [if_pos (by simp [hc]), e1, e2]; cases t; simp_all
  · have et : jS t = decL t.num.toNat := by unfold jS; rw [k]; simp
    have hh := jiW t.num.toNat (by omega) hr; rw [et]; cases e : decL t.num.toNat with
    | nil => exact absurd e (je7 _)
    | cons c u =>
      have hd := vz t.num.toNat c (by rw [e]; simp); obtain ⟨f1, f2, _⟩ := jcn hd; rw [e] at hh
      show tokM (c :: (u ++ r)) = _
      simp only [tokM, if_neg (show ¬ jF c = true by rw [f1]; simp)]; rw [if_neg (fun x => f2 x.1), if_pos hd]; rw [show c :: (u ++ r) = c :: u ++ r from rfl, hh]; have : ((t.num.toNat : Nat) : Int) = t.num := by omega
      cases t; simp_all
  · have et : jS t = 34 :: (zn t.text ++ [34]) := by unfold jS; rw [k]; simp
    rw [et]; have e : 34 :: (zn t.text ++ [34]) ++ r = 34 :: (zn t.text ++ 34 :: r) := by simp
    rw [e]; simp only [tokM, if_neg (show ¬ jF 34 = true by decide)]; rw [if_neg (by rintro ⟨x, _⟩; exact absurd x (by decide)), if_neg (by decide), if_pos (by trivial), jfY]; cases t; simp_all
  · obtain ⟨f1, f2, f3, f4, _⟩ := jcU hm; have et : jS t = [c] := by unfold jS; rw [k]; simp [hc]
    rw [et]
    show tokM (c :: r) = _
    simp only [tokM, if_neg (show ¬ jF c = true by rw [f1]; simp)]; rw [if_neg (fun x => f2 x.1), if_neg (by rw [f3]; simp), if_neg f4, if_pos hm]; cases t; simp_all
theorem jdY {t : Tok} (h : jO t = 0) (r : List UInt8) : silM (jS t ++ r) = (true, jS t ++ r) ∧ jS t ++ r ≠ [] := by
  have key : ∀ (c : UInt8) (u : List UInt8), jS t = c :: u → zl c = false → c ≠ 35 → c ≠ 47 → silM (jS t ++ r) = (true, jS t ++ r) ∧ jS t ++ r ≠ [] := by
    intro c u e h1 h2 h3; rw [e]; exact ⟨jaJ _ h1 h2 h3, by simp⟩
  rcases qC h with ⟨k, n, hw⟩ | ⟨k, n, hw⟩ | ⟨k, n0, n1, ht⟩ | ⟨k, n⟩ | ⟨k, n, c, hc, hm⟩
  · obtain ⟨c, u, hl, hc, _⟩ := vd hw; obtain ⟨f1, f2, f3⟩ := jdU hc; exact key c u (by unfold jS; rw [k]; simp [hl]) f1 f2 f3
  · exact key 58 t.text (by unfold jS; rw [k]; simp) (by decide) (by decide) (by decide)
  · cases e : decL t.num.toNat with
    | nil => exact absurd e (je7 _)
    | cons c u =>
      obtain ⟨_, _, f1, f2, f3⟩ := jcn (vz t.num.toNat c (by rw [e]; simp)); exact key c u (by unfold jS; rw [k]; simp [e]) f1 f2 f3
  · exact key 34 (zn t.text ++ [34]) (by unfold jS; rw [k]; simp) (by decide) (by decide) (by decide)
  · obtain ⟨_, _, _, _, f1, f2, f3⟩ := jcU hm; exact key c [] (by unfold jS; rw [k]; simp [hc]) f1 f2 f3
theorem jg5 {t : Tok} (h : jO t = 0) (r : List UInt8) : begM (jS t ++ r) = true := by
  have key : ∀ (c : UInt8) (u : List UInt8), jS t = c :: u → (jF c = true ∨ jr c = true ∨ c = 34 ∨ vy c = true) → begM (jS t ++ r) = true := by
    intro c u e h1; rw [e]
    show (jF c || (c == 58 && _) || jr c || c == 34 || vy c) = true
    rcases h1 with h1 | h1 | h1 | h1 <;> simp [h1]
  rcases qC h with ⟨k, n, hw⟩ | ⟨k, n, hw⟩ | ⟨k, n0, n1, ht⟩ | ⟨k, n⟩ | ⟨k, n, c, hc, hm⟩
  · obtain ⟨c, u, hl, hc, _⟩ := vd hw; exact key c u (by unfold jS; rw [k]; simp [hl]) (Or.inl hc)
  · obtain ⟨c, u, hl, hc, _⟩ := vd hw; have et : jS t = 58 :: c :: u := by unfold jS; rw [k]; simp [hl]
    rw [et]
    show (jF 58 || ((58 : UInt8) == 58 && (((c :: u ++ r).head?).map jF).getD false) || jr 58 || (58 : UInt8) == 34 || vy 58) = true
    simp [hc]
  · cases e : decL t.num.toNat with
    | nil => exact absurd e (je7 _)
    | cons c u => exact key c u (by unfold jS; rw [k]; simp [e]) (Or.inr (Or.inl (vz t.num.toNat c (by rw [e]; simp))))
  · exact key 34 (zn t.text ++ [34]) (by unfold jS; rw [k]; simp) (Or.inr (Or.inr (Or.inl rfl)))
  · exact key c [] (by unfold jS; rw [k]; simp [hc]) (Or.inr (Or.inr (Or.inr hm)))
def Sil (b : List UInt8) : Prop := ∀ r, silM (b ++ r) = silM r
theorem jhh {c : UInt8} (h : zl c = true) : Sil [c] := fun r => jaf r h
theorem jir {s s' : List UInt8} (h : silM s = silM s') (k : Nat) : cutP k s = cutP k s' := by rw [jba, jba k s', h]
theorem jfz (k : Nat) : cutP k [] = .ok [] := by rw [jba, jan]; simp
theorem jd6 {t : Tok} (h : jO t = 0) {r : List UInt8} (hr : vK r = false) {k : Nat} (hk : k ≠ 400) : cutP k (jS t ++ r) = (match cutP (k + 1) r with | .error e => .error e | .ok l => .ok (t :: l)) := by
  obtain ⟨h1, h2⟩ := jdY h r; rw [jba, h1]; simp only [Bool.true_eq_false, if_false, if_neg h2, if_neg hk, jig h hr]; rfl
theorem jhO {t : Tok} (h : jO t = 0) (r : List UInt8) : cutP 400 (jS t ++ r) = .error ((jS t ++ r).length, 5) := by
  obtain ⟨h1, h2⟩ := jdY h r; rw [jba, h1]; simp only [Bool.true_eq_false, if_false, if_neg h2, if_true, jg5 h r]
def qg (xs : List (Tok × List UInt8)) : List UInt8 := (xs.map fun x => jS x.1 ++ x.2).flatten
def jda (b : List UInt8) : Prop := Sil b ∧ ∃ c u, b = c :: u ∧ jH c = false
theorem jfn (xs : List (Tok × List UInt8)) (hx : ∀ x ∈ xs, jO x.1 = 0 ∧ jda x.2) (tail : List UInt8) : ∀ k, k + xs.length ≤ 400 →
    cutP k (qg xs ++ tail) = (match cutP (k + xs.length) tail with | .error e => .error e | .ok l => .ok (xs.map (·.1) ++ l)) := by
  induction xs with
  | nil => intro k _; simp [qg]; cases cutP k tail <;> rfl
  | cons x xs ih =>
    intro k hk; obtain ⟨h1, h2, c, u, h3, h4⟩ := hx x (by simp); have e : qg (x :: xs) ++ tail = jS x.1 ++ (x.2 ++ (qg xs ++ tail)) := by simp [qg]
    have hr : vK (x.2 ++ (qg xs ++ tail)) = false := by rw [h3]; exact h4
    simp only [List.length_cons] at hk; rw [e, jd6 h1 hr (by omega), jir (h2 _), ih (fun y hy => hx y (by simp [hy])) (k + 1) (by omega)]; have e2 : k + 1 + xs.length = k + (x :: xs).length := by simp; omega
    rw [e2]; cases cutP (k + (x :: xs).length) tail <;> rfl
theorem jki {xs : List (Tok × List UInt8)} (hx : ∀ x ∈ xs, jO x.1 = 0 ∧ jda x.2) (hn : xs.length ≤ 400) (hs : (qg xs).length ≤ 2000) : cutM (qg xs) = (xs.map (·.1), 0, 0) := by
  have := jfn xs hx [] 0 (by omega); rw [List.append_nil, jfz] at this; unfold cutM; rw [if_neg (by omega), this]
  simp
theorem jeN (ts : List Tok) (h : ∀ t ∈ ts, jO t = 0) : ∀ acc : List UInt8, (acc ++ qg (ts.map fun t => (t, [32]))).length ≤ 2000 → vJ acc ts = .ok (acc ++ qg (ts.map fun t => (t, [32]))) := by
  induction ts with
  | nil => intro acc _; simp [vJ, qg]
  | cons t ts ih =>
    intro acc hl; have e : acc ++ qg ((t :: ts).map fun t => (t, [32])) = (acc ++ jS t ++ [32]) ++ qg (ts.map fun t => (t, [32])) := by simp [qg]
    rw [e] at hl ⊢; rw [vJ, if_neg (by simpa using h t (by simp)), if_neg (by rw [List.length_append] at hl; omega)]; exact ih (fun x hx => h x (by simp [hx])) _ hl
theorem jbt {ts : List Tok} (h : ∀ t ∈ ts, jO t = 0) (hn : ts.length ≤ 400) (hl : (qg (ts.map fun t => (t, [32]))).length ≤ 2000) : jaA ts = (qg (ts.map fun t => (t, [32])), 0) := by
  unfold jaA; rw [if_neg (by omega), jeN ts h [] (by simpa using hl)]
  simp
theorem jaI : jda [32] := ⟨jhh (by decide), 32, [], rfl, by decide⟩
theorem jfh {ts : List Tok} (h : ∀ t ∈ ts, jO t = 0) (hn : ts.length ≤ 400) (hl : (qg (ts.map fun t => (t, [32]))).length ≤ 2000) : cutM (jaA ts).1 = (ts, 0, 0) := by
  rw [jbt h hn hl]; have := jki (xs := ts.map fun t => (t, [32])) (fun x hx => by obtain ⟨t, ht, rfl⟩ := List.mem_map.1 hx; exact ⟨h t ht, jaI⟩) (by simpa using hn) hl; rw [this, List.map_map]
  congr 1
  conv => rhs; rw [← List.map_id ts]
  rfl
end Go.Proofs.YthikilhhmianlaaGreatDoor
namespace Go.Proofs.YthikilhhmianlaaGreatDoor
open Go.RowKit
def marksL : List UInt8 := [33, 35, 36, 37, 38, 39, 42, 43, 45, 47, 61, 63, 94, 95, 96, 123, 124, 125, 126]
def qX (c : UInt8) : Bool := (decide (97 ≤ c.toNat) && decide (c.toNat ≤ 122)) || (decide (65 ≤ c.toNat) && decide (c.toNat ≤ 90)) || (decide (48 ≤ c.toNat) && decide (c.toNat ≤ 57)) || marksL.contains c
def runB (c : UInt8) : Bool := c == 46 || qX c
def dotS : Bool → List UInt8 → Bool
  | b, [] => !b
  | b, c :: t => if c = 46 then !b && dotS true t else qX c && dotS false t
def zJ (l : List UInt8) : Bool := dotS true l
def jbe (l : List UInt8) : Bool := !l.isEmpty && l.all qX
theorem jgt {p : List UInt8} (h : 46 ∉ p) (b : Bool) : dotS b p = if p.isEmpty then !b else p.all qX := by
  induction p generalizing b with
  | nil => simp [dotS]
  | cons c t ih =>
    simp only [List.mem_cons, not_or] at h; have hc : ¬ c = 46 := fun e => h.1 e.symm
    simp only [dotS, if_neg hc, ih h.2, List.isEmpty_cons, List.all_cons]; cases t <;> simp
theorem jjh {p : List UInt8} (h : 46 ∉ p) (b : Bool) (t : List UInt8) : dotS b (p ++ 46 :: t) = ((if p.isEmpty then !b else p.all qX) && dotS true t) := by
  induction p generalizing b with
  | nil => simp [dotS]
  | cons c u ih =>
    simp only [List.mem_cons, not_or] at h; have hc : ¬ c = 46 := fun e => h.1 e.symm
    simp only [List.cons_append, dotS, if_neg hc, ih h.2, List.isEmpty_cons, List.all_cons]; cases u <;> simp [Bool.and_assoc]
theorem jd5 {p : List UInt8} (h : 46 ∉ p) : zJ p = jbe p := by
  unfold zJ jbe; rw [jgt h]; cases p <;> simp
theorem jfX {p : List UInt8} (h : 46 ∉ p) (t : List UInt8) : zJ (p ++ 46 :: t) = (jbe p && zJ t) := by
  unfold zJ jbe; rw [jjh h]; cases p <;> simp
def jbY (l d : List UInt8) : Int := if (zJ l && zJ d) = false then 3 else if 100 < l.length + 1 + d.length then 1 else 0
def jT (s : List UInt8) : List UInt8 := s.dropWhile jjX
def wrun (s : List UInt8) : List UInt8 := s.takeWhile runB
def zw (s : List UInt8) : List UInt8 := s.dropWhile runB
theorem vX (s : List UInt8) : wrun s ++ zw s = s := List.takeWhile_append_dropWhile
theorem zo (s : List UInt8) : (jT s).length ≤ s.length := (List.dropWhile_suffix _).length_le
theorem vr (s : List UInt8) : (zw s).length ≤ s.length := (List.dropWhile_suffix _).length_le
abbrev Adr := List UInt8 × List UInt8
def zR (c : UInt8) : List UInt8 → Option (List UInt8)
  | [] => none
  | x :: t => if x = c then some t else none
theorem zX {c : UInt8} {s r : List UInt8} (h : zR c s = some r) : s = c :: r := by
  cases s with
  | nil => cases h
  | cons x t =>
    by_cases e : x = c
    · simp only [zR, if_pos e, Option.some.injEq] at h; rw [e, h]
    · simp only [zR, if_neg e] at h; cases h
def zu : Bool → List UInt8 → Option (List UInt8)
  | _, [] => none
  | true, c :: t => if c = 34 ∨ c = 92 then zu false t else none
  | false, c :: t => if c = 34 then some t else if c = 92 then zu true t else zu false t
theorem jaj {b : Bool} {s r : List UInt8} (h : zu b s = some r) : r.length < s.length := by
  induction s generalizing b with
  | nil => cases b <;> cases h
  | cons c t ih =>
    cases b with
    | true =>
      unfold zu at h; split at h
      · have := ih h; simp; omega
      · cases h
    | false =>
      unfold zu at h; split at h
      · cases h; simp
      · split at h <;> (have := ih h; simp; omega)
def qq (s : List UInt8) : Option (Adr × List UInt8) :=
  match zR 64 (zw s) with
  | none => none
  | some r => if jbY (wrun s) (wrun r) = 0 then some ((wrun s, wrun r), zw r) else none
theorem jcF {s r : List UInt8} {a : Adr} (h : qq s = some (a, r)) : r.length ≤ s.length := by
  unfold qq at h; split at h
  · cases h
  · rename_i r' hr; split at h
    · cases h; have h1 := zX hr; have h2 := vr s; rw [h1] at h2; have h3 := vr r'
      simp at h2; omega
    · cases h
def vG : Nat → List UInt8 → Option (List UInt8)
  | 0, s => some s
  | _ + 1, [] => some []
  | n + 1, c :: t =>
    if c = 34 then (zu false t).bind fun r => vG n (jT r)
    else if runB c then vG n (jT (zw t)) else some (c :: t)
theorem jbQ : ∀ (n m : Nat) (s : List UInt8), s.length ≤ n → s.length ≤ m → vG n s = vG m s := by
  intro n
  induction n with
  | zero =>
    intro m s h1 _; have e : s = [] := List.length_eq_zero_iff.1 (by omega); subst e; cases m <;> rfl
  | succ n ih =>
    intro m s h1 h2; cases s with
    | nil => cases m <;> rfl
    | cons c t =>
      cases m with
      | zero => simp at h2
      | succ m =>
        simp only [List.length_cons] at h1 h2; have h3 := vr t; have h4 := zo (zw t); simp only [vG]; rw [ih m (jT (zw t)) (by omega) (by omega)]; cases hq : zu false t with
        | none => rfl
        | some q =>
          have k1 := jaj hq; have k2 := zo q; simp only [Option.bind_some]; rw [ih m (jT q) (by omega) (by omega)]
def qj (s : List UInt8) : Option (List UInt8) := vG s.length s
theorem ja2 : qj [] = some [] := rfl
theorem jbn (t : List UInt8) : qj (34 :: t) = (zu false t).bind fun r => qj (jT r) := by
  show vG (t.length + 1) (34 :: t) = _
  simp only [vG, if_true]; cases hq : zu false t with
  | none => rfl
  | some q =>
    have k1 := jaj hq; have k2 := zo q; exact jbQ _ _ _ (by omega) (Nat.le_refl _)
theorem jcH {c : UInt8} {t : List UInt8} (h : c ≠ 34) (hr : runB c = true) : qj (c :: t) = qj (jT (zw (c :: t))) := by
  have e : zw (c :: t) = zw t := by unfold zw; rw [List.dropWhile_cons, if_pos hr]
  have h3 := vr t; have h4 := zo (zw t); rw [e]
  show vG (t.length + 1) (c :: t) = _
  simp only [vG, if_neg h, if_pos hr]; exact jbQ _ _ _ (by omega) (Nat.le_refl _)
theorem jbU {c : UInt8} {t : List UInt8} (h : c ≠ 34) (hr : runB c = false) : qj (c :: t) = some (c :: t) := by
  show vG (t.length + 1) (c :: t) = _
  simp [vG, if_neg h, hr]
theorem jcx (n : Nat) : ∀ (s r : List UInt8), s.length ≤ n → qj s = some r → r.length ≤ s.length := by
  induction n with
  | zero =>
    intro s r hn h; cases s with
    | nil => rw [ja2] at h; cases h; simp
    | cons c t => simp at hn
  | succ n ih =>
    intro s r hn h; cases s with
    | nil => rw [ja2] at h; cases h; simp
    | cons c t =>
      simp only [List.length_cons] at hn
      by_cases hc : c = 34
      · subst hc; rw [jbn] at h; cases hq : zu false t with
        | none => rw [hq] at h; cases h
        | some q =>
          rw [hq] at h; have h1 := jaj hq; have h2 := zo q; have h3 := ih _ _ (by omega) h
          simp; omega
      · cases hr : runB c with
        | true =>
          rw [jcH hc hr] at h; have e : zw (c :: t) = zw t := by unfold zw; rw [List.dropWhile_cons, if_pos hr]
          rw [e] at h; have h1 := vr t; have h2 := zo (zw t); have h3 := ih _ _ (by omega) h
          simp; omega
        | false =>
          rw [jbU hc hr] at h; cases h; simp
def jbS (s : List UInt8) : Option (Adr × List UInt8) :=
  (qj s).bind fun r => (zR 60 r).bind fun r => (qq r).bind fun x => (zR 62 x.2).map fun r => (x.1, r)
theorem jgu {s r : List UInt8} {a : Adr} (h : jbS s = some (a, r)) : r.length ≤ s.length := by
  unfold jbS at h; simp only [Option.bind_eq_some_iff, Option.map_eq_some_iff] at h; obtain ⟨r1, h1, r2, h2, ⟨a3, r3⟩, h3, r4, h4, h5⟩ := h; cases h5; have k1 := jcx _ _ _ (Nat.le_refl _) h1; have k2 := congrArg List.length (zX h2); have k3 := jcF h3; have k4 := congrArg List.length (zX h4)
  simp at k2 k4 k3; omega
def j9 (s : List UInt8) : Option (Adr × List UInt8) :=
  (if (zR 64 (zw (jT s))).isSome then qq (jT s) else jbS (jT s)).map fun x => (x.1, jT x.2)
theorem vY {s r : List UInt8} {a : Adr} (h : j9 s = some (a, r)) : r.length ≤ s.length := by
  unfold j9 at h; rw [Option.map_eq_some_iff] at h; obtain ⟨⟨a1, r1⟩, h1, h2⟩ := h; cases h2; have k1 := zo s; have k2 := zo r1; split at h1
  · have := jcF h1; simp only at *; omega
  · have := jgu h1; simp only at *; omega
def jb2 : Nat → List UInt8 → Option (List Adr)
  | 0, _ => none
  | n + 1, s => (j9 s).bind fun x => if x.2 = [] then some [x.1] else (zR 44 x.2).bind fun r => (jb2 n r).map (x.1 :: ·)
theorem jfP : ∀ (n m : Nat) (s : List UInt8), s.length < n → s.length < m → jb2 n s = jb2 m s := by
  intro n
  induction n with
  | zero => intro m s h1; omega
  | succ n ih =>
    intro m s h1 h2; cases m with
    | zero => omega
    | succ m =>
      simp only [jb2]; cases ha : j9 s with
      | none => rfl
      | some x =>
        have k1 := vY (a := x.1) (r := x.2) ha; simp only [Option.bind_some]; split
        · rfl
        · cases ht : zR 44 x.2 with
          | none => rfl
          | some r =>
            have k2 := congrArg List.length (zX ht); simp only [List.length_cons] at k2; simp only [Option.bind_some]; rw [ih m r (by omega) (by omega)]
def vM (s : List UInt8) : Option (List Adr) := jb2 (s.length + 1) s
theorem jf0 {s : List UInt8} (h : j9 s = none) : vM s = none := by
  unfold vM; simp only [jb2, h]; rfl
theorem jhC {s : List UInt8} {a : Adr} (h : j9 s = some (a, [])) : vM s = some [a] := by
  unfold vM; simp only [jb2, h]; rfl
theorem jhV {s r : List UInt8} {a : Adr} (h : j9 s = some (a, r)) (hr : r ≠ []) (h3 : zR 44 r = none) : vM s = none := by
  unfold vM; simp only [jb2, h, Option.bind_some, if_neg hr, h3]; rfl
theorem jgj {s r : List UInt8} {a : Adr} (h : j9 s = some (a, 44 :: r)) : vM s = (vM r).map (a :: ·) := by
  have k1 := vY h; simp only [List.length_cons] at k1
  show jb2 (s.length + 1) s = (jb2 (r.length + 1) r).map _
  have e : zR 44 (44 :: r) = some r := by simp [zR]
  rw [jb2, h, Option.bind_some, if_neg (by simp), e, Option.bind_some, jfP s.length (r.length + 1) r (by omega) (by omega)]
def vL (s : List UInt8) : List Adr × Int :=
  if 2000 < s.length then ([], 1) else match vM s with
    | none => ([], 3)
    | some l => if 20 < l.length then ([], 5) else (l, 0)
end Go.Proofs.YthikilhhmianlaaGreatDoor
namespace Go.Proofs.YthikilhhmianlaaGreatDoor
open Go.RowKit
def wordy (l : List UInt8) : Prop := l ≠ [] ∧ l.length ≤ 8 ∧ ∀ c ∈ l, 97 ≤ c.toNat ∧ c.toNat ≤ 122
def orgL : List UInt8 := [46, 111, 114, 103]
def letters (l : List UInt8) : Prop := ∀ c ∈ l, (97 ≤ c.toNat ∧ c.toNat ≤ 122) ∨ c = 46
theorem wordy.letters {l : List UInt8} (h : wordy l) : letters l := fun c hc => Or.inl (h.2.2 c hc)
theorem wordy.org {l : List UInt8} (h : wordy l) : Go.Proofs.YthikilhhmianlaaGreatDoor.letters (l ++ orgL) := by
  intro c hc
  rcases List.mem_append.1 hc with hc | hc
  · exact Or.inl (h.2.2 c hc)
  · simp [orgL] at hc
    rcases hc with rfl | rfl | rfl | rfl <;> decide
def lawful (a : Adr) : Prop := wordy a.1 ∧ ∃ d, wordy d ∧ a.2 = d ++ orgL
theorem lawful.len {a : Adr} (h : lawful a) : a.1.length ≤ 8 ∧ a.2.length ≤ 12 := by
  obtain ⟨h1, d, h2, h3⟩ := h; have l1 := h1.2.1; have l2 := h2.2.1; rw [h3]; simp [orgL]; omega
theorem lawful.letters {a : Adr} (h : lawful a) : letters a.1 ∧ Go.Proofs.YthikilhhmianlaaGreatDoor.letters a.2 := by
  obtain ⟨h1, d, h2, h3⟩ := h; rw [h3]; exact ⟨h1.letters, h2.org⟩
def jkF (a : Adr) : List UInt8 := a.1 ++ 64 :: a.2
theorem lawful.size {a : Adr} (h : lawful a) : (jkF a).length ≤ 21 := by
  have := h.len
  simp [jkF]; omega
structure Man where
  adr : Adr
  word : List UInt8
  kind : Nat
  sep : Nat
def Man.ok (x : Man) : Prop := lawful x.adr ∧ wordy x.word
end Go.Proofs.YthikilhhmianlaaGreatDoor
namespace Go.Proofs.YthikilhhmianlaaGreatDoor
open Go.RowKit Go.Proofs
end Go.Proofs.YthikilhhmianlaaGreatDoor
namespace Go.Proofs.YthikilhhmianlaaGreatDoor
open Go.RowKit
def flagTab : List (List UInt8 × Nat) := [([92, 83, 101, 101, 110], 1), ([92, 65, 110, 115, 119, 101, 114, 101, 100], 2), ([92, 70, 108, 97, 103, 103, 101, 100], 4), ([92, 68, 101, 108, 101, 116, 101, 100], 8), ([92, 68, 114, 97, 102, 116], 16)]
def jbN : List (List UInt8 × Nat) → List UInt8 → Nat
  | [], _ => 0
  | x :: r, s => if x.1 = s then x.2 else jbN r s
def jaW (s : List UInt8) : Nat := jbN flagTab s
def jbp : Nat → List (List UInt8) → Option Nat
  | n, [] => some n
  | n, s :: r => if jaW s = 0 then none else jbp (n ||| jaW s) r
def qk (l : List (List UInt8)) : Option Nat := jbp 0 l
theorem jhS : ∀ (t : List (List UInt8 × Nat)) (s : List UInt8), (∀ x ∈ t, x.2 < 32) → jbN t s < 32 := by
  intro t
  induction t with
  | nil => intro s _; show 0 < 32; omega
  | cons x t ih =>
    intro s h; unfold jbN; split
    · exact h x (by simp)
    · exact ih s fun y hy => h y (by simp [hy])
theorem jiU (s : List UInt8) : jaW s < 32 := jhS _ _ (by decide)
theorem jks {a b : Nat} (ha : a < 32) (hb : b < 32) : a ||| b < 32 := Nat.or_lt_two_pow (n := 5) ha hb
def vS (c : UInt8) : Bool := decide (33 ≤ c.toNat) && decide (c.toNat ≤ 126)
def jas (s : List UInt8) : Int := if s.length < 1 ∨ 12 < s.length then 1 else if s.all vS then 0 else 3
def jfW : List UInt8 := [102, 105, 108, 101, 105, 110, 116, 111]
def rejW : List UInt8 := [114, 101, 106, 101, 99, 116]
def envW : List UInt8 := [101, 110, 118, 101, 108, 111, 112, 101]
def flgW : List UInt8 := [105, 109, 97, 112, 52, 102, 108, 97, 103, 115]
def jkk : List UInt8 := [102, 114, 111, 109]
def toW : List UInt8 := [116, 111]
def extP (s : List UInt8) : Bool := decide (s = jfW) || decide (s = rejW) || decide (s = envW) || decide (s = flgW)
def qn (s : List UInt8) : Bool := decide (s = jkk) || decide (s = toW)
def jc1 (k : Int) : List UInt8 := if k = 5 then jfW else if k = 7 then rejW else if k = 8 ∨ k = 9 then flgW else []
def hasP (H : List (List UInt8)) (s : List UInt8) : Bool := s.isEmpty || H.contains s
def zO (l : List (List UInt8)) : Bool := l.any fun s => decide (100 < s.length)
def envP (H : List (List UInt8)) (t : Tst) : Int := if hasP H envW = false then 8 else if t.names.all qn then 0 else 7
def tstA (H : List (List UInt8)) : Nat → Tst → Int
  | 0, _ => 0
  | n + 1, t => if t.kind = 8 ∧ envP H t ≠ 0 then envP H t else if zO t.names ∨ zO t.keys then 1 else jw (tstA H n) t.tests
def jap (s : List UInt8) : Int := if (vL s).2 = 0 ∧ (vL s).1.length = 1 then 0 else 3
def cmdA (H : List (List UInt8)) : Nat → Cmd → Int
  | 0, _ => 0
  | n + 1, c =>
    if hasP H (jc1 c.kind) = false then 8
    else if c.kind = 1 then 3
    else if c.kind = 5 then jas (c.texts.getD 0 [])
    else if c.kind = 8 ∨ c.kind = 9 then (if qk c.texts = none then 7 else 0)
    else if c.kind = 6 then jap (c.texts.getD 0 [])
    else if c.kind = 2 then
      (if tstA H n c.test ≠ 0 then tstA H n c.test
       else if jw (cmdA H n) c.thn ≠ 0 then jw (cmdA H n) c.thn
       else jw (cmdA H n) c.els)
    else 0
def zA : List Cmd → Nat
  | [] => 0
  | c :: r => if c.kind = 1 then zA r + 1 else 0
def jdT (l : List Cmd) : List (List UInt8) := (l.take (zA l)).flatMap (·.texts)
def jbw (n : Nat) (l : List Cmd) : Int :=
  if zb n l ≠ 0 then zb n l
  else if (jdT l).all extP = false then 7
  else jw (cmdA (jdT l) n) (l.drop (zA l))
def jeq : Nat → Tst → Prop
  | 0, _ => True
  | n + 1, t => zO t.names = false ∧ zO t.keys = false ∧ (t.kind = 8 → t.names.all qn = true) ∧ ∀ u ∈ t.tests, jeq n u
def jbz : Nat → Cmd → Prop
  | 0, _ => True
  | n + 1, c => c.kind ≠ 1 ∧ (c.kind = 5 → jas (c.texts.getD 0 []) = 0) ∧ (c.kind = 8 ∨ c.kind = 9 → qk c.texts ≠ none) ∧ (c.kind = 6 → jap (c.texts.getD 0 []) = 0) ∧ jeq n c.test ∧ (∀ x ∈ c.thn, jbz n x) ∧ ∀ x ∈ c.els, jbz n x
theorem qG {A : Type} {f : A → Int} {l : List A} (h : ∀ x ∈ l, f x = 0) : jw f l = 0 := by
  induction l with
  | nil => rfl
  | cons x l ih =>
    unfold jw; rw [if_pos (h x (by simp))]; exact ih fun y hy => h y (by simp [hy])
theorem ji5 {H : List (List UInt8)} (hH : hasP H envW = true) : ∀ (n : Nat) (t : Tst), jeq n t → tstA H n t = 0 := by
  intro n
  induction n with
  | zero => intro t _; rfl
  | succ n ih =>
    intro t h; obtain ⟨h1, h2, h3, h4⟩ := h; unfold tstA; have e1 : ¬(t.kind = 8 ∧ envP H t ≠ 0) := by
      rintro ⟨hk, he⟩
      apply he
      unfold envP; rw [if_neg (by rw [hH]; simp), if_pos (h3 hk)]
    rw [if_neg e1, if_neg (by rw [h1, h2]; simp)]; exact qG fun u hu => ih u (h4 u hu)
theorem jji {H : List (List UInt8)} (h0 : hasP H envW = true) (h1 : hasP H jfW = true) (h2 : hasP H rejW = true) (h3 : hasP H flgW = true) : ∀ (n : Nat) (c : Cmd), jbz n c → cmdA H n c = 0 := by
  intro n
  induction n with
  | zero => intro t _; rfl
  | succ n ih =>
    intro c h; obtain ⟨k1, k2, k3, k4, k5, k6, k7⟩ := h; unfold cmdA; have hn : hasP H (jc1 c.kind) = true := by
      unfold jc1; split
      · exact h1
      · split
        · exact h2
        · split
          · exact h3
          · rfl
    rw [if_neg (by rw [hn]; simp), if_neg k1]
    by_cases c5 : c.kind = 5
    · rw [if_pos c5]; exact k2 c5
    · rw [if_neg c5]
      by_cases c8 : c.kind = 8 ∨ c.kind = 9
      · rw [if_pos c8, if_neg (k3 c8)]
      · rw [if_neg c8]
        by_cases c6 : c.kind = 6
        · rw [if_pos c6]; exact k4 c6
        · rw [if_neg c6]
          by_cases c2 : c.kind = 2
          · rw [if_pos c2, if_neg (by rw [ji5 h0 n _ k5]; simp), if_neg (by rw [qG fun u hu => ih u (k6 u hu)]; simp)]; exact qG fun u hu => ih u (k7 u hu)
          · rw [if_neg c2]
def reqT : List (List UInt8) := [[102, 105, 108, 101, 105, 110, 116, 111], [114, 101, 106, 101, 99, 116], [101, 110, 118, 101, 108, 111, 112, 101], [105, 109, 97, 112, 52, 102, 108, 97, 103, 115]]
def reqC : Cmd := ⟨1, reqT, jG, [], []⟩
theorem jhZ {n d : Nat} {l : List Cmd} (h : jU n d l = 0) : ∀ x ∈ l, jm n d x = 0 := by
  intro x hx; unfold jU at h
  induction l with
  | nil => cases hx
  | cons y l ih =>
    unfold jw at h
    by_cases hy : jm n d y = 0
    · rw [if_pos hy] at h
      rcases List.mem_cons.1 hx with e | e
      · rw [e]; exact hy
      · exact ih h e
    · rw [if_neg hy] at h; exact absurd h hy
theorem jiu {n d : Nat} {l : List Cmd} (h : ∀ x ∈ l, jm n d x = 0) : jU n d l = 0 := qG h
theorem jhb {n : Nat} {l : List Cmd} (h : ∀ x ∈ l, jm n 0 x = 0) : zb n l = if 400 < (ze n l).length then 5 else 0 := by
  unfold zb; rw [if_neg (by rw [jiu h]; simp)]
theorem jbL {n : Nat} {l : List Cmd} (h : zb n l = 0) : (∀ x ∈ l, jm n 0 x = 0) ∧ (ze n l).length ≤ 400 := by
  unfold zb at h
  by_cases h1 : jU n 0 l = 0
  · rw [if_neg (by simpa using h1)] at h; refine ⟨jhZ h1, ?_⟩
    rcases Nat.lt_or_ge 400 (ze n l).length with h2 | h2
    · rw [if_pos h2] at h; simp at h
    · exact h2
  · rw [if_pos h1] at h; exact absurd h h1
theorem jg3 (n : Nat) : jm n 0 reqC = 0 := by cases n <;> rfl
theorem jgp {n : Nat} {r : List Cmd} (h : ∀ x ∈ r, jbz (n + 1) x) : zA r = 0 := by
  cases r with
  | nil => rfl
  | cons c r =>
    unfold zA; rw [if_neg (h c (by simp)).1]
theorem jdH {n : Nat} {r : List Cmd} (hc : zb (n + 1) (reqC :: r) = 0) (hN : ∀ x ∈ r, jbz (n + 1) x) : jbw (n + 1) (reqC :: r) = 0 := by
  have ha : zA (reqC :: r) = 1 := by show zA r + 1 = 1; rw [jgp hN]
  have hr : jdT (reqC :: r) = reqT := by unfold jdT; rw [ha]; rfl
  unfold jbw; rw [if_neg (by rw [hc]; simp), hr, if_neg (by decide), ha]; exact qG fun x hx => jji (by decide) (by decide) (by decide) (by decide) _ _ (hN x hx)
end Go.Proofs.YthikilhhmianlaaGreatDoor
namespace Go.Proofs.YthikilhhmianlaaGreatDoor
open Go.RowKit
def fitH (t : Tst) : Bool := decide (1 ≤ t.kind) && decide (t.kind ≤ 10) && qw t && decide (t.names.length ≤ 2) && decide (t.keys.length ≤ 2) && decide (t.tests.length ≤ 3)
def FitT : Nat → Tst → Prop
  | 0, _ => True
  | n + 1, t => fitH t = true ∧ ∀ u ∈ t.tests, FitT n u
def jeo (c : Cmd) : Bool := decide (2 ≤ c.kind) && decide (c.kind ≤ 10) && qa c && decide (c.texts.length ≤ 1 ∧ (c.kind = 7 → (c.texts.getD 0 []).length ≤ 12)) && decide (c.thn.length ≤ 4) && decide (c.els.length ≤ 4)
def FitC : Nat → Cmd → Prop
  | 0, _ => True
  | n + 1, c => jeo c = true ∧ (c.kind = 2 → FitT n c.test) ∧ (∀ x ∈ c.thn, FitC n x) ∧ ∀ x ∈ c.els, FitC n x
theorem je0 {k ma p : Int} {nm : List UInt8} {keys : List (List UInt8)} (hm : ma = 1 ∨ ma = 2 ∨ ma = 3) (hp : k = 6 ∧ p = 0 ∨ (k = 7 ∨ k = 8) ∧ (p = 1 ∨ p = 2 ∨ p = 3)) (hk : ∃ k1, keys = [k1]) : fitH ⟨k, ma, p, [nm], keys, false, 0, []⟩ = true := by
  obtain ⟨k1, rfl⟩ := hk
  rcases hp with ⟨rfl, rfl⟩ | ⟨rfl | rfl, rfl | rfl | rfl⟩ <;> rcases hm with rfl | rfl | rfl <;> rfl
theorem jeZ {k ma p : Int} {nm k1 k2 : List UInt8} (hm : ma = 1 ∨ ma = 2 ∨ ma = 3) (hp : k = 6 ∧ p = 0 ∨ (k = 7 ∨ k = 8) ∧ (p = 1 ∨ p = 2 ∨ p = 3)) : fitH ⟨k, ma, p, [nm], [k1, k2], false, 0, []⟩ = true := by
  rcases hp with ⟨rfl, rfl⟩ | ⟨rfl | rfl, rfl | rfl | rfl⟩ <;> rcases hm with rfl | rfl | rfl <;> rfl
theorem jgT {k : Int} {l : List Tst} (hk : k = 4 ∨ k = 5) (h0 : 0 < l.length) (h3 : l.length ≤ 3) : fitH ⟨k, 0, 0, [], [], false, 0, l⟩ = true := by
  rcases hk with rfl | rfl <;> simp [fitH, qw, qz, h3] <;> omega
theorem jj6 {k : Int} {t : Tst} (hk : k = 3 ∨ k = 4 ∨ k = 5) : fitH ⟨k, 0, 0, [], [], false, 0, [t]⟩ = true := by
  rcases hk with rfl | rfl | rfl <;> rfl
theorem jkg {nm wd : List UInt8} {q : Nat} (h0 : 0 < q) (h2 : q ≤ 2) : fitH ⟨9, 0, 0, [nm, wd].take q, [], false, 0, []⟩ = true := by
  match q, h0, h2 with
  | 1, _, _ => rfl
  | 2, _, _ => rfl
theorem jjr {o : Bool} {l : Int} (h0 : 0 ≤ l) (h1 : l ≤ 400) : fitH ⟨10, 0, 0, [], [], o, l, []⟩ = true := by
  simp [fitH, qw, qz]; omega
theorem jjP {q : Nat} (h : q < 2) : fitH ⟨1 + (q : Int), 0, 0, [], [], false, 0, []⟩ = true := by
  match q, h with
  | 0, _ => rfl
  | 1, _ => rfl
theorem jh5 {t : Tst} {a b : List Cmd} (ha : a.length ≤ 4) (hb : b.length ≤ 4) : jeo ⟨2, [], t, a, b⟩ = true := by
  simp [jeo, qa, ha, hb]
end Go.Proofs.YthikilhhmianlaaGreatDoor
namespace Go.Proofs.YthikilhhmianlaaGreatDoor
open Go.RowKit Go.Proofs
theorem jh0 (ts : List Tok) (h : ∀ t ∈ ts, jO t = 0) : ∀ acc : List UInt8, acc.length ≤ 2000 → 2000 < (acc ++ qg (ts.map fun t => (t, [32]))).length → vJ acc ts = .error 1 := by
  induction ts with
  | nil => intro acc ha hl; simp [qg] at hl; omega
  | cons t ts ih =>
    intro acc ha hl; have e : acc ++ qg ((t :: ts).map fun t => (t, [32])) = (acc ++ jS t ++ [32]) ++ qg (ts.map fun t => (t, [32])) := by simp [qg]
    rw [e] at hl; rw [vJ, if_neg (by simpa using h t (by simp))]
    by_cases hb : 2000 < (acc ++ jS t ++ [32]).length
    · rw [if_pos hb]
    · rw [if_neg hb]; exact ih (fun x hx => h x (by simp [hx])) _ (by omega) hl
theorem jj1 {ts : List Tok} (h : ∀ t ∈ ts, jO t = 0) (hn : ts.length ≤ 400) : jaA ts = ([], 1) ∨ (jaA ts = (qg (ts.map fun t => (t, [32])), 0) ∧ (qg (ts.map fun t => (t, [32]))).length ≤ 2000) := by
  by_cases hl : (qg (ts.map fun t => (t, [32]))).length ≤ 2000
  · exact .inr ⟨jbt h hn hl, hl⟩
  · left
    unfold jaA; rw [if_neg (by omega), jh0 ts h [] (by simp) (by simpa using hl)]
theorem jhL {ts : List Tok} (h : ∀ t ∈ ts, jO t = 0) : ∀ x ∈ ts.map (fun t => (t, [(32 : UInt8)])), jO x.1 = 0 ∧ jda x.2 := fun x hx => by obtain ⟨t, ht, rfl⟩ := List.mem_map.1 hx; exact ⟨h t ht, jaI⟩
theorem jjb (ts : List Tok) : (ts.map fun t => (t, [(32 : UInt8)])).map (·.1) = ts := by
  rw [List.map_map]
  conv => rhs; rw [← List.map_id ts]
  rfl
theorem jep : jO (jx 125) = 0 := by decide
theorem jjp {ts : List Tok} (h : ∀ t ∈ ts, jO t = 0) (hn : ts.length ≤ 400) : (cutM (qg (ts.map fun t => (t, [32])) ++ [125])).2.2 ≠ 0 ∨ (ts.length < 400 ∧ cutM (qg (ts.map fun t => (t, [32])) ++ [125]) = (ts ++ [jx 125], 0, 0)) := by
  by_cases hl : 2000 < (qg (ts.map fun t => (t, [32])) ++ [125]).length
  · left; unfold cutM; rw [if_pos hl]; simp
  · have hc := jfn (ts.map fun t => (t, [32])) (jhL h) [125] 0 (by simpa using hn); have ht : ([125] : List UInt8) = jS (jx 125) ++ [] := by decide
    unfold cutM; rw [if_neg hl, hc]
    by_cases h4 : 0 + (ts.map fun t => (t, [(32 : UInt8)])).length = 400
    · left
      rw [h4, ht, jhO jep]
      simp
    · right
      refine ⟨by simp at h4; omega, ?_⟩; rw [ht, jd6 jep (by rfl) h4, jfz, jjb]
theorem jeK {s : List UInt8} (h : (cutM s).2.2 ≠ 0) : (cutM s).1 = [] := by
  unfold cutM at h ⊢; split
  · rfl
  · rename_i hl; rw [if_neg hl] at h; split
    · rename_i l he; rw [he] at h
      simp at h
    · rfl
theorem jgs (f : List Tok → Rdg Cmd) (m d : Nat) (tail : List Tok) (hft : ja9 tail) (hne : tail.isEmpty = false) (ht : ∃ e, f tail = .error e) : ∀ (l acc : List Cmd) (n : Nat), l.length < n → (∀ x ∈ l, DeepC m x ∧ jm m d x = 0) → (∀ x ∈ l, ∀ r, ja9 r → f (cmdT m x ++ r) = .ok (x, r)) → ∃ e, zv f n acc (l.flatMap (cmdT m) ++ tail) = .error e := by
  intro l
  induction l with
  | nil =>
    intro acc n hn _ _; obtain ⟨e, he⟩ := ht; cases n with
    | zero => simp at hn
    | succ n =>
      rw [List.flatMap_nil, List.nil_append, zv, hne, if_neg (by simp), he]; exact ⟨e, rfl⟩
  | cons x l ih =>
    intro acc n hn hv hf; cases n with
    | zero => simp at hn
    | succ n =>
      have e : (x :: l).flatMap (cmdT m) ++ tail = cmdT m x ++ (l.flatMap (cmdT m) ++ tail) := by simp
      have hi : (cmdT m x ++ (l.flatMap (cmdT m) ++ tail)).isEmpty = false := by unfold cmdT; rfl
      have hfr := jck (m := m) (d := d) tail hft l fun y hy => hv y (by simp [hy])
      rw [e, zv, hi, if_neg (by simp), hf x (by simp) _ hfr]; exact ih (acc ++ [x]) n (by simpa using hn) (fun y hy => hv y (by simp [hy])) fun y hy => hf y (by simp [hy])
theorem jgc (m : Nat) (l : List Cmd) (hd : ∀ x ∈ l, DeepC m x) (hc : zb m l = 0) : (zp (ze m l ++ [jx 125])).2.2 ≠ 0 := by
  obtain ⟨hf, h4⟩ := jbL hc; have hok : AllOk (ze m l) := AllOk.flat fun x hx => (jjY m 0 x (hd x hx) (hf x hx)).2
  unfold zp
  by_cases h5 : 400 < (ze m l ++ [jx 125]).length
  · rw [if_pos h5]; simp
  · rw [if_neg h5, jfC _ _ (hok.app (AllOk.cons jep zm))]; simp only; have hl := jc7 m l []; rw [List.append_nil] at hl; have hL : (ze m l ++ [jx 125]).length = (l.flatMap (cmdT m)).length + 1 := by rw [List.length_append]; rfl
    obtain ⟨e, he⟩ := jgs (cmdP ((ze m l ++ [jx 125]).length + 2) true 0) m 0 [jx 125] (jd4 _ _) rfl ⟨_, by rw [cmdP]; rfl⟩ l [] (ze m l ++ [jx 125]).length (by omega) (fun x hx => ⟨hd x hx, hf x hx⟩) fun x hx r hr => by
      have := jeU (cmdT m) l x hx; exact (jfA m).2 _ 0 x r (hd x hx) (hf x hx) hr (by omega)
    have hs : zy (ze m l ++ [jx 125]) = .error e := he; rw [hs]; exact jjQ hs
end Go.Proofs.YthikilhhmianlaaGreatDoor
namespace Go.Proofs.YthikilhhmianlaaGreatDoor
open Go.RowKit
theorem jcl (c : UInt8) (t : List UInt8) : (S (c :: t)).toList.isEmpty = false := by rw [Lib.toList_data, jW]; rfl
theorem jbR : (S []).toList.isEmpty = true := by rw [Lib.toList_data, jW]; rfl
theorem jev (c : UInt8) (t : List UInt8) : 0 < (S (c :: t)).size := by rw [jB]; simp
theorem qR (s : List UInt8) (k : Nat) : (S s).extract k (S s).size = S (s.drop k) := by
  rw [Lib.extract_eq, jW, jB, List.take_of_length_le (by simp)]; rfl
theorem jdM (s : List UInt8) (k : Nat) : (S s).extract 0 k = S (s.take k) := by
  rw [Lib.extract_eq, jW]; rfl
theorem jdS (c : UInt8) (t : List UInt8) (h : 0 < (S (c :: t)).size) : (S (c :: t))[0] = c := rfl
theorem jbf (c : UInt8) : ((c.toNat : Int)).toNat.toUInt8 = c := by simp
theorem jb {w w' : World} {p : Addr} {v : Value} (h : w.cell? p = some v) (hb : Below w.heap.size w w') : w'.cell? p = some v :=
  (hb.cell (World.block_lt_of_cell? w _ h)).trans h
theorem vN {B : Nat} {a w : World} (h : Below B a w) (n : Nat) : Below B a (w.drewN n) := h.trans ⟨rfl, rfl, rfl, Nat.le_refl _, fun _ _ => rfl⟩
theorem jkt {B : Nat} {a b c : World} (h : Below B a b) (k : Below b.heap.size b c) (hB : B ≤ a.heap.size) : Below B a c := h.trans (k.mono (Nat.le_trans hB h.size))
end Go.Proofs.YthikilhhmianlaaGreatDoor
namespace Go.Proofs.YthikilhhmianlaaGreatDoor
open Go.RowKit Go.Proofs
theorem jh8 (s : List UInt8) (k : Nat) (h : k < (S s).size) (h' : k < s.length) : (S s)[k]'h = s[k]'h' := by
  have this : (S s)[k]'h = (S s).data.toList[k]'(by simpa using h) := rfl; rw [this]
  simp [jW]
def tokV (t : Tok) : Value := .agg #[.int .i64 t.kind, .string (S t.text), .int .i64 t.num]
def qx : Tok := { kind := 0, text := [], num := 0 }
def TokB (w : World) (b : Nat) (t : Tok) : Prop := w.heap[b]? = some (.cells #[.int .i64 t.kind, .string (S t.text), .int .i64 t.num] 50)
theorem TokB.c0 {w : World} {b : Nat} {t : Tok} (h : TokB w b t) : w.cell? ⟨b, 0, none⟩ = some (.int .i64 t.kind) := by unfold TokB at h; simp [World.cell?, h]
theorem TokB.c1 {w : World} {b : Nat} {t : Tok} (h : TokB w b t) : w.cell? ⟨b, 1, none⟩ = some (.string (S t.text)) := by unfold TokB at h; simp [World.cell?, h]
theorem TokB.c2 {w : World} {b : Nat} {t : Tok} (h : TokB w b t) : w.cell? ⟨b, 2, none⟩ = some (.int .i64 t.num) := by unfold TokB at h; simp [World.cell?, h]
theorem TokB.free {w : World} {b : Nat} {t : Tok} (h : TokB w b t) (o : Nat) : w.frozen? ⟨b, o, none⟩ = false := by unfold TokB at h; simp [World.frozen?, h]
theorem TokB.lt {w : World} {b : Nat} {t : Tok} (h : TokB w b t) : b < w.heap.size := World.block_lt_of_cell? w _ h.c0
theorem TokB.far {w : World} {b : Nat} {t : Tok} (h : TokB w b t) {p : Addr} (hn : b ≠ p.block) (v : Value) : TokB (w.setCell p v) b t := (Below.heap_setCell _ _ _ _ hn).trans h
theorem TokB.but {w w' : World} {r b : Nat} {t : Tok} (h : TokB w b t) (hb : But r w w') (hn : b ≠ r) : TokB w' b t := (hb.block b h.lt hn).trans h
theorem TokB.below {w w' : World} {b B : Nat} {t : Tok} (h : TokB w b t) (hb : Below B w w') (hB : b < B) : TokB w' b t := (hb.block b hB).trans h
theorem TokB.next {w w' : World} {b : Nat} {t : Tok} (h : TokB w b t) (hb : Below w.heap.size w w') : TokB w' b t := (hb.block b h.lt).trans h
theorem qB (w : World) (t : Tok) : TokB (w.alloc (.cells #[.int .i64 t.kind, .string (S t.text), .int .i64 t.num] 50)) w.heap.size t := by
  unfold TokB
  show (w.heap.push _)[w.heap.size]? = _
  simp
def Tk (w : World) (s : List UInt8) (r : Cutting) (e : Ending) (w' : World) : Prop :=
  match r with
  | .error x => e = .returned (.tuple #[tokV qx, .int .i64 0, .int .i64 x]) ∧ Below w.heap.size w w'
  | .ok (t, rest) => e = .returned (.tuple #[tokV t, .int .i64 (s.length - rest.length : Nat), .int .i64 0]) ∧ Below w.heap.size w w'
end Go.Proofs.YthikilhhmianlaaGreatDoor
namespace Go.Proofs.YthikilhhmianlaaGreatDoor
open Go.RowKit Go.Proofs
theorem jh3 : (Tryz.prog.info? 50).map (fun i => (i.zero, i.size, i.bytes)) = some (some (.agg #[.int .i64 0, .string ByteArray.empty, .int .i64 0]), 3, 32) := by kernel_rfl
def qS (l : List Tok) : List Value := l.flatMap fun t => [.int .i64 t.kind, .string (S t.text), .int .i64 t.num]
theorem jcd (l : List Tok) (t : Tok) : qS (l ++ [t]) = qS l ++ [.int .i64 t.kind, .string (S t.text), .int .i64 t.num] := by simp [qS]
theorem jf2 {l : List Tok} {i : Nat} {t : Tok} (h : l[i]? = some t) : (qS l)[i * 3]? = some (.int .i64 t.kind) ∧ (qS l)[i * 3 + 1]? = some (.string (S t.text)) ∧ (qS l)[i * 3 + 2]? = some (.int .i64 t.num) := by
  induction l generalizing i with
  | nil => simp at h
  | cons g l ih =>
    cases i with
    | zero => simp at h; subst h; simp [qS]
    | succ i =>
      have := ih (i := i) (by simpa using h); have e1 : (i + 1) * 3 = i * 3 + 3 := by omega
      rw [e1]
      simpa [qS] using this
def OwnT (w : World) (B : Nat) (v : Value) (l : List Tok) : Prop := w.ownsRow B 50 3 v l.length (qS l)
def ToksAt (w : World) (a : Option Addr) (l : List Tok) : Prop :=
  ∀ (i : Nat) t, l[i]? = some t → ∃ b o, a = some ⟨b, o, none⟩ ∧ b < w.heap.size ∧ w.cell? ⟨b, o + i * 3, none⟩ = some (.int .i64 t.kind) ∧ w.cell? ⟨b, o + i * 3 + 1, none⟩ = some (.string (S t.text)) ∧ w.cell? ⟨b, o + i * 3 + 2, none⟩ = some (.int .i64 t.num)
theorem ToksAt.below {w w' : World} {a : Option Addr} {l : List Tok} (h : ToksAt w a l) (hb : Below w.heap.size w w') : ToksAt w' a l := by
  intro i x hx; obtain ⟨b, o, ha, hlt, h1, h2, h3⟩ := h i x hx; exact ⟨b, o, ha, Nat.lt_of_lt_of_le hlt hb.size, jb h1 hb, jb h2 hb, jb h3 hb⟩
theorem jjB (w : World) (a : Option Addr) : ToksAt w a [] := fun i x hx => by simp at hx
theorem OwnT.any {w : World} {B : Nat} {v : Value} {l : List Tok} (h : OwnT w B v l) : ∃ a cap, v = .slice a l.length cap := by
  rcases h.2 with ⟨rfl, hn⟩ | ⟨g, cap, cur, rfl, _⟩
  · exact ⟨none, 0, by rw [hn]⟩
  · exact ⟨_, _, rfl⟩
theorem OwnT.at {w : World} {B : Nat} {a : Option Addr} {c : Nat} {l : List Tok} (h : OwnT w B (.slice a l.length c) l) : ToksAt w a l := by
  intro i x hx; have hi : i < l.length := (List.getElem?_eq_some_iff.1 hx).1
  rcases h.2 with ⟨_, hn⟩ | ⟨g, cap, cur, hv, hb, hg, q⟩
  · omega
  · simp only [Value.slice.injEq, true_and] at hv; obtain ⟨rfl, rfl⟩ := hv; have hgl : g < w.heap.size := by
      rcases Nat.lt_or_ge g w.heap.size with h' | h'
      · exact h'
      · rw [Array.getElem?_eq_none h'] at hg; cases hg
    obtain ⟨h1, h2, h3⟩ := jf2 hx; refine ⟨g, 0, rfl, hgl, ?_, ?_, ?_⟩
    · rw [Nat.zero_add, World.ownsRow.cellAt h (i * 3) (by omega)]; exact h1
    · rw [Nat.zero_add, World.ownsRow.cellAt h (i * 3 + 1) (by omega)]; exact h2
    · rw [Nat.zero_add, World.ownsRow.cellAt h (i * 3 + 2) (by omega)]; exact h3
theorem vu {w w' : World} {base : Nat} {e : TypeId} {size : Nat} {v : Value} {n : Nat} {xs : List Value} (h : w.ownsRow base e size v n xs) (hb : Below w.heap.size w w') : w'.ownsRow base e size v n xs := by
  refine ⟨h.1, ?_⟩
  rcases h.2 with h' | ⟨g, cap, cur, h1, h2, hg, q⟩
  · exact .inl h'
  · refine .inr ⟨g, cap, cur, h1, h2, ?_, q⟩; rw [hb.block g (by
      rcases Nat.lt_or_ge g w.heap.size with h' | h'
      · exact h'
      · rw [Array.getElem?_eq_none h'] at hg; cases hg)]
    exact hg
theorem jhu (W : World) (n : Nat) (hn : W.heap.size = n) (x y z : Value) (t : TypeId) : ∀ (j : Nat) u, [x, y, z][j]? = some u → (W.alloc (.cells #[x, y, z] t)).cell? ((⟨n, 0, none⟩ : Addr).add j) = some u := by
  subst hn; intro j u hj; rw [Addr.add_lit, Nat.zero_add]
  match j, hj with
  | 0, hj => simp at hj; subst hj; simp
  | 1, hj => simp at hj; subst hj; simp
  | 2, hj => simp at hj; subst hj; simp
end Go.Proofs.YthikilhhmianlaaGreatDoor
namespace Go.Proofs.YthikilhhmianlaaGreatDoor
open Go.RowKit
theorem jeX (s : List UInt8) : silM (s.dropWhile zl) = silM s := by
  induction s with
  | nil => rfl
  | cons c t ih =>
    rw [List.dropWhile_cons]; cases h : zl c with
    | true => rw [if_pos rfl, ih, jaf t h]
    | false => simp
theorem jbl (u : List UInt8) : qd u = if 0 ≤ Lib.index u [42, 47] then some (u.drop ((Lib.index u [42, 47]).toNat + 2)) else none := by
  induction u with
  | nil => rfl
  | cons a t ih =>
    cases t with
    | nil =>
      have e : Lib.index [a] [42, 47] = -1 := by
        unfold Lib.index; rw [if_neg (by simp [List.isPrefixOf])]; rfl
      rw [e]; rfl
    | cons b t =>
      by_cases h : a = 42 ∧ b = 47
      · obtain ⟨rfl, rfl⟩ := h; have e : Lib.index (42 :: 47 :: t) [42, 47] = 0 := by
          unfold Lib.index; rw [if_pos (by simp [List.isPrefixOf])]
        rw [e, qd]; rfl
      · have hp : ¬ ([42, 47] : List UInt8).isPrefixOf (a :: b :: t) = true := by
          intro hp; simp only [List.isPrefixOf, Bool.and_true, Bool.and_eq_true, beq_iff_eq] at hp; exact h ⟨hp.1.symm, hp.2.symm⟩
        have hge := Lib.index_ge (b :: t) [42, 47]; rw [qd, if_neg h, ih]; have e : Lib.index (a :: b :: t) [42, 47] = if Lib.index (b :: t) [42, 47] == -1 then -1 else Lib.index (b :: t) [42, 47] + 1 := by
          rw [Lib.index, if_neg hp]
        rw [e]
        by_cases hm : Lib.index (b :: t) [42, 47] = -1
        · rw [hm]; rfl
        · have hm' : ¬ (Lib.index (b :: t) [42, 47] == -1) = true := by simpa using hm
          rw [if_neg hm', if_pos (by omega), if_pos (by omega)]; have e2 : (Lib.index (b :: t) [42, 47] + 1).toNat + 2 = ((Lib.index (b :: t) [42, 47]).toNat + 2) + 1 := by omega
          rw [e2]; rfl
theorem jjJ {u : List UInt8} (h : qd u = none) : Lib.cut u [42, 47] = (u, [], false) := by
  rw [jbl] at h; unfold Lib.cut; split at h
  · cases h
  · rename_i hn; rw [if_neg hn]
theorem jkb {u r : List UInt8} (h : qd u = some r) : ∃ a, Lib.cut u [42, 47] = (a, r, true) ∧ u.length = a.length + 2 + r.length ∧ r = u.drop (a.length + 2) := by
  rw [jbl] at h; split at h
  · rename_i hn; have hr := Lib.index_room u [42, 47] hn; simp only [List.length_cons, List.length_nil] at hr; simp only [Option.some.injEq] at h; refine ⟨u.take (Lib.index u [42, 47]).toNat, ?_, ?_, ?_⟩
    · unfold Lib.cut; rw [if_pos hn, ← h]; rfl
    · rw [← h]; simp; omega
    · rw [← h, List.length_take, Nat.min_eq_left (by omega)]
  · cases h
def vO (s : List UInt8) : Int :=
  match s with
  | [] => 0
  | c :: t => if jF c then 1 else if c = 58 ∧ (t.head?.map jF).getD false = true then 2 else if jr c then 3 else if c = 34 then 4 else if vy c then 5 else 0
theorem jdX (s : List UInt8) : (vO s = 0) ↔ begM s = false := by
  cases s with
  | nil => simp [vO, begM]
  | cons c t =>
    simp only [vO, begM]; cases h1 : jF c with
    | true => simp
    | false =>
      by_cases h2 : c = 58 ∧ (t.head?.map jF).getD false = true
      · simp only [Bool.false_eq_true, if_false, h2.1, h2.2]; simp
      · simp only [Bool.false_eq_true, if_false, if_neg h2]; have h2' : (c == 58 && (t.head?.map jF).getD false) = false := by
          cases e : (c == 58 && (t.head?.map jF).getD false) with
          | false => rfl
          | true => exact absurd (by simpa using e) h2
        rw [h2']; cases h3 : jr c with
        | true => simp
        | false =>
          by_cases h4 : c = 34
          · simp [h4]
          · cases h5 : vy c <;> simp [h4]
def wlen (s : List UInt8) : Nat := match s with | [] => 0 | c :: t => if jr c then 0 else ((c :: t).takeWhile jH).length
theorem jbv {c : UInt8} (h : jF c = true) : jr c = false := by
  cases e : jr c with
  | false => rfl
  | true =>
    unfold jr at e; unfold jF at h; simp only [Bool.and_eq_true, decide_eq_true_eq, Bool.or_eq_true, beq_iff_eq] at e h
    rcases h with (h | h) | h
    · omega
    · omega
    · subst h; simp at e
theorem vD {c : UInt8} (t : List UInt8) (h : jF c = true) : wlen (c :: t) = 1 + (t.takeWhile jH).length := by
  show (if jr c then 0 else ((c :: t).takeWhile jH).length) = _
  rw [jbv h, if_neg (by simp), List.takeWhile_cons, if_pos (by unfold jH; rw [h]; rfl)]
  simp; omega
theorem jds {c : UInt8} (t : List UInt8) (h : jF c = false) : wlen (c :: t) = 0 := by
  show (if jr c then 0 else ((c :: t).takeWhile jH).length) = _
  cases e : jr c with
  | true => rfl
  | false => rw [if_neg (by simp), List.takeWhile_cons, if_neg (by unfold jH; rw [h, e]; simp)]; rfl
theorem jc8 (s : List UInt8) : 0 < wlen s ↔ (s.head?.map jF).getD false = true := by
  cases s with
  | nil => simp [wlen]
  | cons c t =>
    cases e : jF c with
    | true => rw [vD t e]; simp [e]; omega
    | false => rw [jds t e]; simp [e]
theorem jiV (s : List UInt8) : (s ≠ [] ∧ wlen s = s.length) ↔ jao s = true := by
  cases s with
  | nil => simp [jao]
  | cons c t =>
    cases e : jF c with
    | false => rw [jds t e]; simp [jao, e]
    | true =>
      rw [vD t e]; have hc : jH c = true := by unfold jH; rw [e]; rfl
      simp only [jao, List.head?_cons, Option.map_some, Option.getD_some, e, Bool.true_and, List.all_cons, hc, ne_eq, reduceCtorEq, not_false_eq_true, true_and, List.length_cons]; rw [List.all_eq_true]
      constructor
      · intro h x hx; have h2 : t.takeWhile jH = t := by
          have hs := List.takeWhile_prefix (l := t) jH; exact hs.eq_of_length (by omega)
        rw [← h2] at hx; exact List.all_eq_true.1 (List.all_takeWhile (p := jH) (l := t)) x hx
      · intro h; have h2 : t.takeWhile jH = t := by
          have := List.takeWhile_append_of_pos (p := jH) (l₁ := t) (l₂ := []) h
          simpa using this
        rw [h2]; omega
end Go.Proofs.YthikilhhmianlaaGreatDoor
namespace Go.Proofs.YthikilhhmianlaaGreatDoor
open Go.RowKit Go.Proofs
theorem jgz {c : UInt8} (h1 : 48 ≤ c.toNat) (h2 : c.toNat ≤ 57) : jr c = true := by unfold jr; simp [h1, h2]
theorem jec {c : UInt8} (h : ¬ (48 ≤ c.toNat ∧ c.toNat ≤ 57)) : jr c = false := by
  unfold jr; rw [Bool.and_eq_false_iff, decide_eq_false_iff_not, decide_eq_false_iff_not]; omega
set_option maxHeartbeats 1000000 in
theorem zg (c : UInt8) (w : World) :
    Calls Tryz.prog 59 #[.int .u8 c.toNat] w fun e w' => e = .returned (.bool (jr c)) ∧ w' = w := by
  have hu := c.toNat_lt
  by_cases h1 : 48 ≤ c.toNat
  · by_cases h2 : c.toNat ≤ 57
    · have HA : Hid _ := jgz h1 h2; have b1 : (48 : Int) ≤ (c.toNat : Int) := by omega
      have b2 : (c.toNat : Int) ≤ 57 := by omega
      clear h1 h2; go_enter Tryz.func59, Tryz.ntmps59; go_wp2; go_ret; exact ⟨jn HA.out.symm, rfl⟩
    · have HA : Hid (jr c = false) := jec (by omega); have b1 : (48 : Int) ≤ (c.toNat : Int) := by omega
      have b2 : ¬ (c.toNat : Int) ≤ 57 := by omega
      clear h1 h2; go_enter Tryz.func59, Tryz.ntmps59; go_wp2; go_ret; exact ⟨jn HA.out.symm, rfl⟩
  · have HA : Hid (jr c = false) := jec (by omega); have b1 : ¬ (48 : Int) ≤ (c.toNat : Int) := by omega
    clear h1; go_enter Tryz.func59, Tryz.ntmps59; go_wp2; go_ret; exact ⟨jn HA.out.symm, rfl⟩
theorem jil {c : UInt8} (h1 : 97 ≤ c.toNat) (h2 : c.toNat ≤ 122) : jH c = true := by unfold jH jF; simp [h1, h2]
theorem jjc {c : UInt8} (h1 : 65 ≤ c.toNat) (h2 : c.toNat ≤ 90) : jH c = true := by unfold jH jF; simp [h1, h2]
theorem jgy {c : UInt8} (h1 : ¬ (97 ≤ c.toNat ∧ c.toNat ≤ 122)) (h2 : ¬ (65 ≤ c.toNat ∧ c.toNat ≤ 90)) (h3 : jr c = false) : jH c = decide ((c.toNat : Int) = 95) := by
  unfold jH jF; rw [h3]; have e1 : (decide (97 ≤ c.toNat) && decide (c.toNat ≤ 122)) = false := by rw [Bool.and_eq_false_iff, decide_eq_false_iff_not, decide_eq_false_iff_not]; omega
  have e2 : (decide (65 ≤ c.toNat) && decide (c.toNat ≤ 90)) = false := by rw [Bool.and_eq_false_iff, decide_eq_false_iff_not, decide_eq_false_iff_not]; omega
  rw [e1, e2]; simp only [Bool.false_or, Bool.or_false]
  by_cases h : c = 95
  · subst h; rfl
  · have : ¬ (c.toNat : Int) = 95 := fun e => h (UInt8.toNat_inj.1 (by show c.toNat = 95; omega))
    simp [h, this]
set_option maxHeartbeats 2000000 in
theorem zB (c : UInt8) (w : World) :
    Calls Tryz.prog 76 #[.int .u8 c.toNat] w fun e w' => e = .returned (.bool (jH c)) ∧ w' = w := by
  have hu := c.toNat_lt
  by_cases h1 : 97 ≤ c.toNat ∧ c.toNat ≤ 122
  · have HA : Hid _ := jil h1.1 h1.2; have b1 : (97 : Int) ≤ (c.toNat : Int) := by omega
    have b2 : (c.toNat : Int) ≤ 122 := by omega
    clear h1; go_enter Tryz.func76, Tryz.ntmps76; go_wp2; go_ret; exact ⟨jn HA.out.symm, rfl⟩
  by_cases h2 : 65 ≤ c.toNat ∧ c.toNat ≤ 90
  · have HA : Hid _ := jjc h2.1 h2.2; have b0 : ¬ (97 : Int) ≤ (c.toNat : Int) := by omega
    have b1 : (65 : Int) ≤ (c.toNat : Int) := by omega
    have b2 : (c.toNat : Int) ≤ 90 := by omega
    clear h1 h2; go_enter Tryz.func76, Tryz.ntmps76; go_wp2; go_ret; exact ⟨jn HA.out.symm, rfl⟩
  cases h3 : jr c with
  | true =>
    have HA : Hid (jH c = true) := by unfold Hid jH; rw [h3]; simp
    have HD : Hid _ := h3; have h3' : 48 ≤ c.toNat ∧ c.toNat ≤ 57 := by unfold jr at h3; simpa using h3
    have b0 : ¬ (97 : Int) ≤ (c.toNat : Int) := by omega
    have b1 : ¬ (65 : Int) ≤ (c.toNat : Int) := by omega
    clear h1 h2 h3 h3'; go_enter Tryz.func76, Tryz.ntmps76; go_wp2_with fail; refine (zg c _).mono ?_; rintro e u ⟨rfl, hu⟩; have hu' := hu.symm; subst hu'; rw [HD.out]; go_wp2; go_ret; exact ⟨jn HA.out.symm, rfl⟩
  | false =>
    have HA : Hid _ := jgy h1 h2 h3; have HD : Hid _ := h3; clear h3
    by_cases g1 : 97 ≤ c.toNat
    · have b0 : (97 : Int) ≤ (c.toNat : Int) := by omega
      have b0' : ¬ (c.toNat : Int) ≤ 122 := by omega
      have b1 : (65 : Int) ≤ (c.toNat : Int) := by omega
      have b1' : ¬ (c.toNat : Int) ≤ 90 := by omega
      clear h1 h2 g1; go_enter Tryz.func76, Tryz.ntmps76; go_wp2_with fail; refine (zg c _).mono ?_; rintro e u ⟨rfl, hu⟩; have hu' := hu.symm; subst hu'; rw [HD.out]; go_wp2; go_ret; exact ⟨jn (by rw [HA.out]; first | rfl | simp), rfl⟩
    · by_cases g2 : 65 ≤ c.toNat
      · have b0 : ¬ (97 : Int) ≤ (c.toNat : Int) := by omega
        have b1 : (65 : Int) ≤ (c.toNat : Int) := by omega
        have b1' : ¬ (c.toNat : Int) ≤ 90 := by omega
        clear h1 h2 g1 g2; go_enter Tryz.func76, Tryz.ntmps76; go_wp2_with fail; refine (zg c _).mono ?_; rintro e u ⟨rfl, hu⟩; have hu' := hu.symm; subst hu'; rw [HD.out]; go_wp2; go_ret; exact ⟨jn (by rw [HA.out]; first | rfl | simp), rfl⟩
      · have b0 : ¬ (97 : Int) ≤ (c.toNat : Int) := by omega
        have b1 : ¬ (65 : Int) ≤ (c.toNat : Int) := by omega
        clear h1 h2 g1 g2; go_enter Tryz.func76, Tryz.ntmps76; go_wp2_with fail; refine (zg c _).mono ?_; rintro e u ⟨rfl, hu⟩; have hu' := hu.symm; subst hu'; rw [HD.out]; go_wp2; go_ret; exact ⟨jn (by rw [HA.out]; first | rfl | simp), rfl⟩
end Go.Proofs.YthikilhhmianlaaGreatDoor
