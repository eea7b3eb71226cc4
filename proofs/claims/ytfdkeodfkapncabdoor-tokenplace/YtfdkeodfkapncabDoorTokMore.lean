/-
  More plain facts on tokens: blanks and comments, times, places, how many. No program is named here.
-/
import Derived.Test.YtfdkeodfkapncabDoorTokLaws
namespace Go.Proofs.YtfdkeodfkapncabDoor
open Go.RowKit

/- Blanks and comments. -/
def blanksT : List (List UInt8) := [[32], [9], [13, 10], [47, 42, 32, 97, 59, 32, 42, 47], [47, 42, 42, 47, 32], [35, 32, 98, 32, 123, 10], [10, 35, 10]]
theorem blanks_sil : ∀ b ∈ blanksT, Sil b := by
  intro b hb
  simp only [blanksT, List.mem_cons, List.not_mem_nil, or_false] at hb
  rcases hb with rfl | rfl | rfl | rfl | rfl | rfl | rfl
  · exact sil_space (by decide)
  · exact sil_space (by decide)
  · exact sil_app (a := [13]) (b := [10]) (sil_space (by decide)) (sil_space (by decide))
  · exact sil_com (l := [32, 97, 59, 32]) (by decide)
  · exact sil_app (a := [47, 42, 42, 47]) (b := [32]) (sil_com (l := []) (by decide)) (sil_space (by decide))
  · exact sil_hash (l := [32, 98, 32, 123]) (by decide)
  · exact sil_app (a := [10]) (b := [35, 10]) (sil_space (by decide)) (sil_hash (l := []) (by decide))
theorem blanks_short : ∀ b ∈ blanksT, b.length ≤ 8 := by decide
theorem sil_flatten {bs : List (List UInt8)} (h : ∀ b ∈ bs, Sil b) : Sil bs.flatten := by
  induction bs with
  | nil => exact sil_nil
  | cons b bs ih => rw [List.flatten_cons]; exact sil_app (h b (by simp)) (ih fun x hx => h x (by simp [hx]))
theorem between_more {b : List UInt8} (h : Sil b) : between (32 :: b) :=
  ⟨sil_app (a := [32]) (sil_space (by decide)) h, 32, b, rfl, by decide⟩
theorem none_cut : cutM [47, 42, 32, 97, 32, 42, 47, 32, 35, 32, 98] = ([], 0, 0) := by
  have h1 := sil_com (l := [32, 97, 32]) (by decide) [32, 35, 32, 98]
  have e : silM [47, 42, 32, 97, 32, 42, 47, 32, 35, 32, 98] = (true, []) := by
    refine h1.trans ?_
    rw [silM_space _ (by decide), silM_hash]
    have : lineEnd [32, 98] = [] := by decide
    rw [this, silM_nil]
  unfold cutM
  rw [if_neg (by decide), cutP_eq, e]
  simp
theorem open_cut (k : Nat) : cutP k [47, 42] = .error (([47, 42] : List UInt8).length, 4) := by
  rw [cutP_eq, silM_open rfl]; simp

/- Times. -/
def numT (n : Nat) : Tok := { kind := 3, text := [], num := n }
theorem numM_times (n : Nat) (c : UInt8) (m : Nat) (r : List UInt8) (hc : timesM (c :: r) = (m, r)) (hd : digitC c = false) (hr : headW r = false) (hm : n * m ≤ 2147483647) : numM (decL n ++ c :: r) = .ok (numT (n * m), r) := by
  obtain ⟨e1, e2⟩ := takeW_app (decL_digits n) (r := c :: r) (fun c' u e => by cases e; exact hd)
  unfold numM
  rw [e1, e2, hc]
  simp only [hr, Bool.false_eq_true, if_false, decV_decL]
  rw [if_neg (by omega)]
  rfl
theorem tokM_dec (n : Nat) (r : List UInt8) : tokM (decL n ++ r) = numM (decL n ++ r) ∧ silM (decL n ++ r) = (true, decL n ++ r) ∧ decL n ++ r ≠ [] := by
  cases e : decL n with
  | nil => exact absurd e (decL_ne _)
  | cons c u =>
    have hd := decL_digits n c (by rw [e]; simp)
    obtain ⟨f1, f2, f3, f4, f5⟩ := digit_facts hd
    refine ⟨?_, silM_stop _ f3 f4 f5, by simp⟩
    show tokM (c :: (u ++ r)) = _
    simp only [tokM, if_neg (show ¬ letterC c = true by rw [f1]; simp)]
    rw [if_neg (fun x => f2 x.1), if_pos hd]
    rfl
theorem cutP_times {n : Nat} {c : UInt8} {m : Nat} {r : List UInt8} (hc : timesM (c :: r) = (m, r)) (hd : digitC c = false) (hr : headW r = false) (hm : n * m ≤ 2147483647) {k : Nat} (hk : k ≠ 400) :
    cutP k (decL n ++ c :: r) = (match cutP (k + 1) r with | .error e => .error e | .ok l => .ok (numT (n * m) :: l)) := by
  obtain ⟨h1, h2, h3⟩ := tokM_dec n (c :: r)
  rw [cutP_eq, h2]
  simp only [Bool.true_eq_false, if_false, if_neg h3, if_neg hk, h1, numM_times n c m r hc hd hr hm]
  rfl
theorem decL_short {n : Nat} (h : n < 10000000000) : (decL n).length ≤ 10 := decL_len n 9 (by simpa using h)
theorem times_K {n : Nat} (h : n < 2047) : cutM (decL n ++ [75] ++ [32] ++ decL n ++ [107]) = ([numT (n * 1024), numT (n * 1024)], 0, 0) := by
  have hl := decL_short (n := n) (by omega)
  have e : decL n ++ [75] ++ [32] ++ decL n ++ [107] = decL n ++ 75 :: 32 :: (decL n ++ 107 :: []) := by simp
  have h1 := cutP_times (n := n) (c := 75) (m := 1024) (r := 32 :: (decL n ++ 107 :: [])) rfl (by decide) (by show wordyC 32 = false; decide) (by omega) (k := 0) (by decide)
  have h2 := cutP_times (n := n) (c := 107) (m := 1024) (r := []) rfl (by decide) rfl (by omega) (k := 1) (by decide)
  have h3 : cutP 1 (32 :: (decL n ++ 107 :: [])) = cutP 1 (decL n ++ 107 :: []) := cutP_sil (silM_space _ (by decide)) 1
  unfold cutM
  rw [if_neg (by simp; omega), e, h1]
  show (match (match cutP 1 (32 :: (decL n ++ 107 :: [])) with | .error e => Except.error e | .ok l => .ok (numT (n * 1024) :: l)) with | .ok l => (l, (0 : Int), (0 : Int)) | .error (m, e) => ([], _, e)) = _
  rw [h3, h2, cutP_nil]
theorem times_M {n : Nat} (h : n < 2047) : cutM (decL n ++ [77]) = ([numT (n * 1048576)], 0, 0) := by
  have hl := decL_short (n := n) (by omega)
  have h2 := cutP_times (n := n) (c := 77) (m := 1048576) (r := []) rfl (by decide) rfl (by omega) (k := 0) (by decide)
  unfold cutM
  rw [if_neg (by simp; omega), h2, cutP_nil]
theorem times_bad {n : Nat} (h : n < 2047) : cutM (decL n ++ [75, 98]) = ([], 0, 3) := by
  have hl := decL_short (n := n) (by omega)
  obtain ⟨h1, h2, h3⟩ := tokM_dec n [75, 98]
  obtain ⟨e1, e2⟩ := takeW_app (decL_digits n) (r := [75, 98]) (fun c' u e => by cases e; decide)
  have hn : numM (decL n ++ [75, 98]) = .error 3 := by
    unfold numM
    rw [e1, e2]
    rfl
  unfold cutM
  rw [if_neg (by simp; omega), cutP_eq, h2]
  simp only [Bool.true_eq_false, if_false, if_neg h3, h1, hn]
  simp
theorem times_big : cutM [50, 48, 52, 56, 77] = ([], 0, 6) := by
  have h2 : silM [50, 48, 52, 56, 77] = (true, [50, 48, 52, 56, 77]) := silM_stop _ (by decide) (by decide) (by decide)
  have hn : tokM [50, 48, 52, 56, 77] = .error 6 := rfl
  unfold cutM
  rw [if_neg (by decide), cutP_eq, h2]
  simp only [Bool.true_eq_false, if_false, hn]
  simp

/- Places. -/
def badsT : List (List UInt8 × Int) := [([64], 3), ([34, 97], 4), ([58, 32, 97], 3), ([57, 57, 57, 57, 57, 57, 57, 57, 57, 57, 57, 57, 57, 57, 57, 57, 57, 57, 57, 57], 6), ([49, 120], 3), ([47], 3), ([34, 92], 4), ([0], 3), ([45, 49], 3), ([92], 3)]
theorem bads_cut : ∀ x ∈ badsT, ∀ k, k ≠ 400 → cutP k x.1 = .error (x.1.length, x.2) := by
  have key : ∀ (s : List UInt8) (e : Int), silM s = (true, s) → s ≠ [] → tokM s = .error e → ∀ k, k ≠ 400 → cutP k s = .error (s.length, e) := by
    intro s e h1 h2 h3 k hk
    rw [cutP_eq, h1]
    simp only [Bool.true_eq_false, if_false, if_neg h2, if_neg hk, h3]
  intro x hx
  simp only [badsT, List.mem_cons, List.not_mem_nil, or_false] at hx
  rcases hx with rfl | rfl | rfl | rfl | rfl | rfl | rfl | rfl | rfl | rfl
  · exact key _ _ (silM_stop _ (by decide) (by decide) (by decide)) (by simp) rfl
  · exact key _ _ (silM_stop _ (by decide) (by decide) (by decide)) (by simp) rfl
  · exact key _ _ (silM_stop _ (by decide) (by decide) (by decide)) (by simp) rfl
  · exact key _ _ (silM_stop _ (by decide) (by decide) (by decide)) (by simp) rfl
  · exact key _ _ (silM_stop _ (by decide) (by decide) (by decide)) (by simp) rfl
  · exact key _ _ (silM_slash rfl) (by simp) rfl
  · exact key _ _ (silM_stop _ (by decide) (by decide) (by decide)) (by simp) rfl
  · exact key _ _ (silM_stop _ (by decide) (by decide) (by decide)) (by simp) rfl
  · exact key _ _ (silM_stop _ (by decide) (by decide) (by decide)) (by simp) rfl
  · exact key _ _ (silM_stop _ (by decide) (by decide) (by decide)) (by simp) rfl

/- How many. -/
def semiT : Tok := { kind := 5, text := [59], num := 0 }
theorem semi_fault : faultT semiT = 0 := by decide
theorem semi_text : textT semiT = [59] := by decide
theorem cut_semis (n : Nat) : ∀ k, k ≤ 400 → cutP k (List.replicate n 59) = if k + n ≤ 400 then .ok (List.replicate n semiT) else .error (n - (400 - k), 5) := by
  induction n with
  | zero => intro k hk; rw [if_pos (by omega)]; exact cutP_nil k
  | succ n ih =>
    intro k hk
    have e : List.replicate (n + 1) (59 : UInt8) = textT semiT ++ List.replicate n 59 := by rw [semi_text, List.replicate_succ]; rfl
    by_cases hk4 : k = 400
    · subst hk4
      rw [e, cutP_full semi_fault, ← e, if_neg (by omega)]
      simp
    · have hr : headW (List.replicate n (59 : UInt8)) = false := by
        cases n with
        | zero => rfl
        | succ n => rw [List.replicate_succ]; show wordyC 59 = false; decide
      rw [e, cutP_text semi_fault hr hk4, ih (k + 1) (by omega)]
      by_cases hle : k + (n + 1) ≤ 400
      · rw [if_pos (by omega), if_pos hle, List.replicate_succ]
      · rw [if_neg (by omega), if_neg hle]
        show Except.error _ = Except.error _
        congr 2
        omega
theorem many_cut {n : Nat} (h : n ≤ 800) : cutM (List.replicate n 59) = if n ≤ 400 then (List.replicate n semiT, 0, 0) else ([], 400, 5) := by
  unfold cutM
  rw [if_neg (by simp; omega), cut_semis n 0 (by omega)]
  by_cases hn : n ≤ 400
  · rw [if_pos (by omega), if_pos hn]
  · rw [if_neg (by omega), if_neg hn]
    have e : n - (n - (400 - 0)) = 400 := by omega
    simp only [List.length_replicate, e]
    rfl
theorem many_join {n : Nat} (h : n ≤ 400) : joinM (List.replicate n semiT) = ((List.replicate n ([59, 32] : List UInt8)).flatten, 0) := by
  have e : flatT ((List.replicate n semiT).map fun t => (t, [32])) = (List.replicate n ([59, 32] : List UInt8)).flatten := by
    unfold flatT
    rw [List.map_replicate, List.map_replicate, semi_text]
    rfl
  rw [joinM_lawful (fun t ht => by rw [(List.mem_replicate.1 ht).2]; exact semi_fault) (by simpa using h) (by rw [e]; simp [List.length_flatten]; omega), e]
theorem many_join_full {n : Nat} (h : 400 < n) : joinM (List.replicate n semiT) = ([], 5) := by
  unfold joinM
  rw [if_pos (by simpa using h)]
end Go.Proofs.YtfdkeodfkapncabDoor
