/-
  Plain facts on scripts: tokens that are cut are too short, or are some of the commands. No program is named here.
-/
import Derived.Test.YtbdpfoidhffalaaDoorScrBk
namespace Go.Proofs.YtbdpfoidhffalaaDoor
open Go.RowKit

def shortE : Nat × Int := (0, 4)
/-- What is read of a part, where the whole was read: the same, or it is too short. -/
def Cut2 {A : Type} (s : List Tok) (x : A) (r : List Tok) (y : Rdg A) : Prop := (∃ r', r = r' ++ s ∧ y = .ok (x, r')) ∨ y = .error shortE
/-- Or something else, and nothing is left. -/
def Cut3 {A : Type} (s : List Tok) (x : A) (r : List Tok) (y : Rdg A) : Prop := Cut2 s x r y ∨ ∃ z, y = .ok (z, [])
theorem Cut2.then {A B : Type} {s r : List Tok} {x : A} {y : Rdg A} {k : A → List Tok → Rdg B} {P : Rdg B → Prop} (h : Cut2 s x r y) (he : P (.error shortE)) (hk : ∀ r', r = r' ++ s → P (k x r')) : P (thenR y k) := by
  rcases h with ⟨r', e, rfl⟩ | rfl
  · exact hk r' e
  · exact he
theorem Cut3.then {A B : Type} {s r : List Tok} {x : A} {y : Rdg A} {k : A → List Tok → Rdg B} {P : Rdg B → Prop} (h : Cut3 s x r y) (he : P (.error shortE)) (hk : ∀ r', r = r' ++ s → P (k x r')) (hz : ∀ z, P (k z [])) : P (thenR y k) := by
  rcases h with h | ⟨z, rfl⟩
  · exact h.then he hk
  · exact hz z
theorem cut2_err {A : Type} {s r : List Tok} {x : A} : Cut2 s x r (.error shortE : Rdg A) := .inr rfl
theorem cut2_ok {A : Type} {s r : List Tok} {x : A} : Cut2 s x (r ++ s) (.ok (x, r) : Rdg A) := .inl ⟨r, rfl, rfl⟩
theorem skip_cut {k : Int} {c : List UInt8} {p s q : List Tok} (hp : p ≠ []) (h : skipP k c (p ++ s) = some q) : ∃ p', skipP k c p = some p' ∧ q = p' ++ s := by
  cases p with
  | nil => exact absurd rfl hp
  | cons t p =>
    unfold skipP at h ⊢
    simp only [List.cons_append] at h ⊢
    split at h
    · rename_i hc; cases h; exact ⟨p, by rw [if_pos hc], rfl⟩
    · cases h
theorem skip_cut_no {k : Int} {c : List UInt8} {p s : List Tok} (h : skipP k c (p ++ s) = none) : skipP k c p = none := by
  cases p with
  | nil => rfl
  | cons t p =>
    unfold skipP at h ⊢
    simp only [List.cons_append] at h ⊢
    split at h
    · cases h
    · rename_i hc; rw [if_neg hc]
theorem takeK_cut {k : Int} {p s r : List Tok} {t : Tok} (h : takeKP k (p ++ s) = .ok (t, r)) : Cut2 s t r (takeKP k p) := by
  cases p with
  | nil => exact .inr rfl
  | cons u p =>
    obtain ⟨e, hk⟩ := takeKP_ok h
    cases e
    exact .inl ⟨p, rfl, by unfold takeKP; simp only; rw [if_pos hk]⟩
theorem takeT_cut {k : Int} {c : List UInt8} {p s r : List Tok} {u : Unit} (h : takeTP k c (p ++ s) = .ok (u, r)) : Cut2 s u r (takeTP k c p) := by
  cases p with
  | nil => exact .inr rfl
  | cons t p =>
    obtain ⟨p', h1, h2⟩ := skip_cut (by simp) (takeTP_ok h)
    exact .inl ⟨p', h2, by unfold takeTP; rw [h1]⟩
theorem text_cut {p s r : List Tok} {x : List UInt8} (h : textR (p ++ s) = .ok (x, r)) : Cut2 s x r (textR p) := by
  obtain ⟨t, q, h1, h2⟩ := thenR_ok h
  cases h2
  exact (takeK_cut h1).then cut2_err fun r' e => .inl ⟨r', e, rfl⟩
theorem nil_of {p s : List Tok} (h : (p ++ s).length ≤ 0) : p = [] := by
  cases p with
  | nil => rfl
  | cons t p => simp at h
theorem loop_cut {A : Type} {f g : List Tok → Rdg A} {N : Nat} (hf : ∀ p s x r, p.length < N → f (p ++ s) = .ok (x, r) → Cut2 s x r (g p)) (hl : ∀ r x q, f r = .ok (x, q) → q.length ≤ r.length) : ∀ (n m : Nat) (acc l : List A) (p s r : List Tok), p.length ≤ m → p.length ≤ N → (p ++ s).length ≤ n → loopF f n acc (p ++ s) = .ok (l, r) → Cut3 s l r (loopF g m acc p) := by
  intro n
  induction n with
  | zero =>
    intro m acc l p s r _ _ hn h
    have hp := nil_of hn
    subst hp
    right
    exact ⟨acc, by cases m <;> rfl⟩
  | succ n ih =>
    intro m acc l p s r hm hN hn h
    by_cases hp : p = []
    · subst hp
      right
      exact ⟨acc, by cases m <;> rfl⟩
    · unfold loopF at h
      have hpos := List.length_pos_iff.2 hp
      obtain ⟨m, rfl⟩ : ∃ m', m = m' + 1 := ⟨m - 1, by omega⟩
      split at h
      · rename_i hs
        cases h
        left; left
        exact ⟨p, rfl, by rw [loopF, skip_cut_no hs]⟩
      · rename_i q hs
        obtain ⟨p', e1, e2⟩ := skip_cut hp hs
        obtain ⟨x, q1, h1, h2⟩ := thenR_ok h
        rw [loopF, e1]
        simp only
        subst e2
        have hlen := skipP_len e1
        have hq := hl _ _ _ h1
        refine (hf _ _ _ _ (by omega) h1).then (P := fun y => Cut3 s l r y) (.inl cut2_err) fun r' er => ?_
        subst er
        simp only [List.length_append] at hq hn
        exact ih m _ _ _ _ _ (by omega) (by omega) (by simp only [List.length_append]; omega) h2
theorem list_cut {p s r : List Tok} {l : List (List UInt8)} (h : listR (p ++ s) = .ok (l, r)) : Cut2 s l r (listR p) := by
  by_cases hp : p = []
  · subst hp; exact .inr rfl
  unfold listR at h ⊢
  split at h
  · rename_i hs
    rw [skip_cut_no hs]
    simp only
    obtain ⟨x, q1, h1, h2⟩ := thenR_ok h
    cases h2
    exact (text_cut h1).then cut2_err fun r' e => .inl ⟨r', e, rfl⟩
  · rename_i q hs
    obtain ⟨p', e1, e2⟩ := skip_cut hp hs
    rw [e1]
    simp only
    subst e2
    obtain ⟨x, q1, h1, h2⟩ := thenR_ok h
    obtain ⟨l2, q2, h3, h4⟩ := thenR_ok h2
    obtain ⟨u, q3, h5, h6⟩ := thenR_ok h4
    cases h6
    refine (text_cut h1).then cut2_err fun r1 e1 => ?_
    subst e1
    refine (loop_cut (N := r1.length + 1) (fun p s x r _ h => text_cut h) (fun _ _ _ h => Nat.le_of_lt (textR_len h)) _ _ _ _ _ _ _ (Nat.le_refl _) (by omega) (Nat.le_refl _) h3).then cut2_err (fun r2 e2 => ?_) (fun z => .inr rfl)
    subst e2
    exact (takeT_cut h5).then cut2_err fun r3 e3 => .inl ⟨r3, e3, rfl⟩
theorem kind_cut {k d n : Nat} {p s r : List Tok} (h : kindP k d (p ++ s) = .ok (n, r)) : Cut2 s n r (kindP k d p) := by
  obtain ⟨hd, hn, t, e, hk, ht⟩ := kindP_ok h
  cases p with
  | nil => right; unfold kindP; rw [if_neg (by omega)]; rfl
  | cons u p =>
    cases e
    subst ht
    exact .inl ⟨p, rfl, by unfold kindP; rw [if_neg (by omega)]; simp only; rw [if_pos ⟨hk, hn⟩]⟩
theorem tags_cut {b : Bool} : ∀ (p s r : List Tok) (m q : Nat) (x : Nat × Nat), tagsF b (p ++ s) m q = .ok (x, r) → Cut3 s x r (tagsF b p m q) := by
  intro p
  induction p with
  | nil => intro s r m q x h; right; exact ⟨_, by unfold tagsF; rfl⟩
  | cons t p ih =>
    intro s r m q x h
    rw [List.cons_append, tagsF] at h
    rw [tagsF]
    by_cases h2 : t.kind = 2
    · rw [if_pos h2] at h ⊢
      by_cases hm : numberP 2 t.text ≠ 0 ∧ m = 0
      · rw [if_pos hm] at h ⊢; exact ih _ _ _ _ _ h
      · rw [if_neg hm] at h ⊢
        by_cases hq : numberP 3 t.text ≠ 0 ∧ q = 0 ∧ b = true
        · rw [if_pos hq] at h ⊢; exact ih _ _ _ _ _ h
        · rw [if_neg hq] at h; cases h
    · rw [if_neg h2] at h ⊢
      cases h
      exact .inl (.inl ⟨t :: p, rfl, rfl⟩)
theorem bound_cut {p s r : List Tok} {x : Bool × Int} (h : boundR (p ++ s) = .ok (x, r)) : Cut2 s x r (boundR p) := by
  by_cases hp : p = []
  · subst hp; exact .inr rfl
  unfold boundR at h ⊢
  split at h
  · rename_i q hs
    obtain ⟨p', e1, e2⟩ := skip_cut hp hs
    rw [e1]
    simp only
    subst e2
    obtain ⟨t, q1, h1, h2⟩ := thenR_ok h
    cases h2
    exact (takeK_cut h1).then cut2_err fun r' e => .inl ⟨r', e, rfl⟩
  · rename_i hs
    rw [skip_cut_no hs]
    simp only
    obtain ⟨u, q0, h0, h'⟩ := thenR_ok h
    obtain ⟨t, q1, h1, h2⟩ := thenR_ok h'
    cases h2
    refine (takeT_cut h0).then cut2_err fun r0 e0 => ?_
    subst e0
    exact (takeK_cut h1).then cut2_err fun r' e => .inl ⟨r', e, rfl⟩
theorem len_of {p r' s q : List Tok} (h : q = r' ++ s) (hl : q.length < (p ++ s).length) : r'.length < p.length := by
  subst h; simp only [List.length_append] at hl; omega
theorem test_cut : ∀ (n n' d : Nat) (p s r : List Tok) (t : Tst), p.length < n' → testP n d (p ++ s) = .ok (t, r) → Cut2 s t r (testP n' d p) := by
  intro n
  induction n with
  | zero => intro n' d p s r t _ h; cases h
  | succ n ih =>
    intro n' d p s r t hn h
    obtain ⟨n', rfl⟩ : ∃ m, n' = m + 1 := ⟨n' - 1, by omega⟩
    unfold testP at h ⊢
    obtain ⟨k, q1, h1, h2⟩ := thenR_ok h
    have hl1 := kindP_len h1
    refine (kind_cut h1).then cut2_err fun r1 e1 => ?_
    have l1 := len_of e1 hl1
    subst e1
    simp only at h2 ⊢
    split at h2
    · rename_i hk
      rw [if_pos hk]
      obtain ⟨x, q2, h3, h4⟩ := thenR_ok h2
      cases h4
      exact (ih n' _ _ _ _ _ (by omega) h3).then cut2_err fun r' e => .inl ⟨r', e, rfl⟩
    · rename_i n3
      rw [if_neg n3]
      split at h2
      · rename_i hk
        rw [if_pos hk]
        obtain ⟨x, q2, h3, h4⟩ := thenR_ok h2
        cases h4
        unfold testsR at h3
        obtain ⟨u, a1, g1, g2⟩ := thenR_ok h3
        obtain ⟨y, a2, g3, g4⟩ := thenR_ok g2
        obtain ⟨l', a3, g5, g6⟩ := thenR_ok g4
        obtain ⟨u', a4, g7, g8⟩ := thenR_ok g6
        cases g8
        have m1 := skipP_len (takeTP_ok g1)
        have m2 := testP_len _ _ _ _ _ g3
        have key : Cut2 s x r (testsR (testP n' (d + 1)) r1) := by
          unfold testsR
          refine (takeT_cut g1).then cut2_err fun b1 f1 => ?_
          have k1 := len_of f1 m1
          subst f1
          refine (ih n' _ _ _ _ _ (by omega) g3).then cut2_err fun b2 f2 => ?_
          have k2 := len_of f2 m2
          subst f2
          refine (loop_cut (N := n') (fun p s x r hp h => ih n' _ _ _ _ _ hp h) (fun _ _ _ h => Nat.le_of_lt (testP_len _ _ _ _ _ h)) _ _ _ _ _ _ _ (Nat.le_refl _) (by omega) (Nat.le_refl _) g5).then cut2_err (fun b3 f3 => ?_) (fun z => .inr rfl)
          subst f3
          exact (takeT_cut g7).then cut2_err fun b4 f4 => .inl ⟨b4, f4, rfl⟩
        exact key.then cut2_err fun r' e => .inl ⟨r', e, rfl⟩
      · rename_i n45
        rw [if_neg n45]
        split at h2
        · rename_i hk
          rw [if_pos hk]
          obtain ⟨x, q2, h3, h4⟩ := thenR_ok h2
          obtain ⟨y, q3, h5, h6⟩ := thenR_ok h4
          obtain ⟨z, q4, h7, h8⟩ := thenR_ok h6
          cases h8
          refine (tags_cut _ _ _ _ _ _ h3).then cut2_err (fun b1 f1 => ?_) (fun z => .inr rfl)
          subst f1
          refine (list_cut h5).then cut2_err fun b2 f2 => ?_
          subst f2
          exact (list_cut h7).then cut2_err fun b3 f3 => .inl ⟨b3, f3, rfl⟩
        · rename_i n678
          rw [if_neg n678]
          split at h2
          · rename_i hk
            rw [if_pos hk]
            obtain ⟨x, q2, h3, h4⟩ := thenR_ok h2
            cases h4
            exact (list_cut h3).then cut2_err fun r' e => .inl ⟨r', e, rfl⟩
          · rename_i n9
            rw [if_neg n9]
            split at h2
            · rename_i hk
              rw [if_pos hk]
              obtain ⟨x, q2, h3, h4⟩ := thenR_ok h2
              cases h4
              exact (bound_cut h3).then cut2_err fun r' e => .inl ⟨r', e, rfl⟩
            · rename_i n10
              rw [if_neg n10]
              cases h2
              exact .inl ⟨r1, rfl, rfl⟩
theorem block_cut {f g : List Tok → Rdg Cmd} {N : Nat} (hf : ∀ p s x r, p.length < N → f (p ++ s) = .ok (x, r) → Cut3 s x r (g p)) (hl : ∀ r x q, f r = .ok (x, q) → q.length < r.length) : ∀ (n m : Nat) (acc l : List Cmd) (p s r : List Tok), p.length < m → p.length < N → blockF f n acc (p ++ s) = .ok (l, r) → Cut2 s l r (blockF g m acc p) := by
  intro n
  induction n with
  | zero => intro m acc l p s r _ _ h; cases h
  | succ n ih =>
    intro m acc l p s r hm hN h
    obtain ⟨m, rfl⟩ : ∃ m', m = m' + 1 := ⟨m - 1, by omega⟩
    by_cases hp : p = []
    · subst hp; exact .inr rfl
    have hpos := List.length_pos_iff.2 hp
    unfold blockF at h
    split at h
    · rename_i q hs
      cases h
      obtain ⟨p', e1, e2⟩ := skip_cut hp hs
      exact .inl ⟨p', e2, by rw [blockF, e1]⟩
    · rename_i hs
      split at h
      · cases h
      obtain ⟨x, q1, h1, h2⟩ := thenR_ok h
      have hq := hl _ _ _ h1
      have hi : p.isEmpty = false := by cases p with
        | nil => exact absurd rfl hp
        | cons _ _ => rfl
      rw [blockF, skip_cut_no hs]
      simp only
      rw [hi, if_neg (by simp)]
      refine (hf _ _ _ _ hN h1).then cut2_err (fun r1 e1 => ?_) (fun z => ?_)
      · have := len_of e1 hq
        subst e1
        exact ih m _ _ _ _ _ (by omega) (by omega) h2
      · obtain ⟨m, rfl⟩ : ∃ m', m = m' + 1 := ⟨m - 1, by omega⟩
        exact .inr rfl
theorem blockR_cut {f g : List Tok → Rdg Cmd} {N : Nat} (hf : ∀ p s x r, p.length < N → f (p ++ s) = .ok (x, r) → Cut3 s x r (g p)) (hl : ∀ r x q, f r = .ok (x, q) → q.length < r.length) {l : List Cmd} {p s r : List Tok} (hp : p.length ≤ N) (h : blockR f (p ++ s) = .ok (l, r)) : Cut2 s l r (blockR g p) := by
  obtain ⟨u, q1, h1, h2⟩ := thenR_ok h
  have m1 := skipP_len (takeTP_ok h1)
  refine (takeT_cut h1).then cut2_err fun b1 f1 => ?_
  have k1 := len_of f1 m1
  subst f1
  exact block_cut hf hl _ _ _ _ _ _ _ (by omega) (by omega) h2
theorem cmd_cut : ∀ (n n' : Nat) (b : Bool) (d : Nat) (p s r : List Tok) (c : Cmd), p.length + 1 < n' → cmdP n b d (p ++ s) = .ok (c, r) → Cut3 s c r (cmdP n' b d p) := by
  intro n
  induction n with
  | zero => intro n' b d p s r c _ h; cases h
  | succ n ih =>
    intro n' b d p s r c hn h
    obtain ⟨n', rfl⟩ : ∃ m, n' = m + 1 := ⟨n' - 1, by omega⟩
    have err3 : Cut3 s c r (.error shortE : Rdg Cmd) := .inl (.inr rfl)
    cases b with
    | true =>
      unfold cmdP at h ⊢
      obtain ⟨k, q1, h1, h2⟩ := thenR_ok h
      have hl1 := kindP_len h1
      refine (kind_cut h1).then (P := fun y => Cut3 s c r y) err3 fun r1 e1 => ?_
      have l1 := len_of e1 hl1
      subst e1
      try simp only at h2 ⊢
      split at h2
      · rename_i hk
        rw [if_pos hk]
        exact ih n' _ _ _ _ _ _ (by omega) h2
      · rename_i n2
        rw [if_neg n2]
        left
        split at h2
        · rename_i hk
          rw [if_pos hk]
          obtain ⟨x, q2, h3, h4⟩ := thenR_ok h2
          obtain ⟨y, q3, h5, h6⟩ := thenR_ok h4
          cases h6
          refine (list_cut h3).then cut2_err fun b1 f1 => ?_
          subst f1
          exact (takeT_cut h5).then cut2_err fun b2 f2 => .inl ⟨b2, f2, rfl⟩
        · rename_i n189
          rw [if_neg n189]
          split at h2
          · rename_i hk
            rw [if_pos hk]
            obtain ⟨x, q2, h3, h4⟩ := thenR_ok h2
            obtain ⟨y, q3, h5, h6⟩ := thenR_ok h4
            cases h6
            refine (text_cut h3).then cut2_err fun b1 f1 => ?_
            subst f1
            exact (takeT_cut h5).then cut2_err fun b2 f2 => .inl ⟨b2, f2, rfl⟩
          · rename_i n567
            rw [if_neg n567]
            obtain ⟨y, q3, h5, h6⟩ := thenR_ok h2
            cases h6
            exact (takeT_cut h5).then cut2_err fun b2 f2 => .inl ⟨b2, f2, rfl⟩
    | false =>
      unfold cmdP at h ⊢
      obtain ⟨t, q1, h1, h2⟩ := thenR_ok h
      obtain ⟨th, q2, h3, h4⟩ := thenR_ok h2
      have hl : ∀ r x q, cmdP n true (d + 1) r = .ok (x, q) → q.length < r.length := fun r x q h => cmdP_len _ _ _ _ _ _ h
      have hbf : ∀ p s x r, p.length < n' - 1 → cmdP n true (d + 1) (p ++ s) = .ok (x, r) → Cut3 s x r (cmdP n' true (d + 1) p) := fun p s x r hp h => ih n' _ _ _ _ _ _ (by omega) h
      have hl1 := testP_len _ _ _ _ _ h1
      have hl3 := blockR_len (fun _ _ _ h => Nat.le_of_lt (hl _ _ _ h)) h3
      refine (test_cut _ n' _ _ _ _ _ (by omega) h1).then (P := fun y => Cut3 s c r y) err3 fun r1 e1 => ?_
      have l1 := len_of e1 hl1
      subst e1
      refine (blockR_cut hbf hl (by omega) h3).then (P := fun y => Cut3 s c r y) err3 fun r2 e2 => ?_
      have l2 := len_of e2 hl3
      subst e2
      by_cases hr2 : r2 = []
      · subst hr2
        exact .inr ⟨_, rfl⟩
      split at h4
      · rename_i q0 hs
        obtain ⟨p', g1, g2⟩ := skip_cut hr2 hs
        have l3 := skipP_len g1
        rw [g1]
        simp only
        subst g2
        obtain ⟨z, q3, h5, h6⟩ := thenR_ok h4
        cases h6
        refine (ih n' _ _ _ _ _ _ (by omega) h5).then (P := fun y => Cut3 s _ _ y) (.inl (.inr rfl)) (fun r' e => .inl (.inl ⟨r', e, rfl⟩)) (fun z => .inr ⟨_, rfl⟩)
      · rename_i hs
        rw [skip_cut_no hs]
        simp only
        split at h4
        · rename_i q0 hs2
          obtain ⟨p', g1, g2⟩ := skip_cut hr2 hs2
          have l3 := skipP_len g1
          rw [g1]
          simp only
          subst g2
          obtain ⟨z, q3, h5, h6⟩ := thenR_ok h4
          cases h6
          exact (blockR_cut hbf hl (by omega) h5).then (P := fun y => Cut3 s _ _ y) (.inl (.inr rfl)) (fun r' e => .inl (.inl ⟨r', e, rfl⟩))
        · rename_i hs2
          rw [skip_cut_no hs2]
          cases h4
          exact .inl (.inl ⟨r2, rfl, rfl⟩)
/-- A part of a script's tokens: some commands, no more than there were, or it is too short. -/
theorem script_cut (p s : List Tok) (cs : List Cmd) (r : List Tok) (h : scriptR (p ++ s) = .ok (cs, r)) : (∃ cs', scriptR p = .ok (cs', []) ∧ cs'.length ≤ cs.length) ∨ scriptR p = .error shortE := by
  have grow : ∀ (N n : Nat) (acc l : List Cmd) (q r : List Tok), scriptF (cmdP N true 0) n acc q = .ok (l, r) → acc.length ≤ l.length := by
    intro N n
    induction n with
    | zero => intro acc l q r h; cases h; exact Nat.le_refl _
    | succ n ih =>
      intro acc l q r h
      unfold scriptF at h
      split at h
      · cases h; exact Nat.le_refl _
      · obtain ⟨x, q1, h1, h2⟩ := thenR_ok h
        have := ih _ _ _ _ h2
        simp at this
        omega
  have main : ∀ (n m : Nat) (acc acc' l : List Cmd) (p' r : List Tok), acc'.length = acc.length → p'.length ≤ m → p'.length ≤ p.length → (p' ++ s).length ≤ n → scriptF (cmdP ((p ++ s).length + 2) true 0) n acc (p' ++ s) = .ok (l, r) →
      (∃ l', scriptF (cmdP (p.length + 2) true 0) m acc' p' = .ok (l', []) ∧ l'.length ≤ l.length) ∨ scriptF (cmdP (p.length + 2) true 0) m acc' p' = .error shortE := by
    intro n
    induction n with
    | zero =>
      intro m acc acc' l p' r ha _ _ hn h
      have hp := nil_of hn
      subst hp
      cases h
      left
      exact ⟨acc', by cases m <;> rfl, by omega⟩
    | succ n ih =>
      intro m acc acc' l p' r ha hm hpp hn h
      by_cases hp : p' = []
      · subst hp
        left
        exact ⟨acc', by cases m <;> rfl, by have := grow _ _ _ _ _ _ h; omega⟩
      have hpos := List.length_pos_iff.2 hp
      obtain ⟨m, rfl⟩ : ∃ m', m = m' + 1 := ⟨m - 1, by omega⟩
      unfold scriptF at h
      split at h
      · rename_i he
        exfalso
        cases p' with
        | nil => exact hp rfl
        | cons _ _ => cases he
      · obtain ⟨x, q1, h1, h2⟩ := thenR_ok h
        have hq := cmdP_len _ _ _ _ _ _ h1
        have hi : p'.isEmpty = false := by cases p' with
          | nil => exact absurd rfl hp
          | cons _ _ => rfl
        rw [scriptF, hi, if_neg (by simp)]
        refine (cmd_cut _ (p.length + 2) _ _ _ _ _ _ (by omega) h1).then (P := fun y => (∃ l' : List Cmd, y = .ok (l', []) ∧ l'.length ≤ l.length) ∨ y = .error shortE) (.inr rfl) (fun r1 e1 => ?_) (fun z => ?_)
        · have := len_of e1 hq
          subst e1
          simp only [List.length_append] at hn hq
          exact ih m _ _ _ _ _ (by simp [ha]) (by omega) (by omega) (by simp only [List.length_append]; omega) h2
        · left
          refine ⟨acc' ++ [z], by cases m <;> rfl, ?_⟩
          have := grow _ _ _ _ _ _ h2
          simp at this ⊢
          omega
  exact main _ _ _ _ _ _ _ rfl (Nat.le_refl _) (Nat.le_refl _) (Nat.le_refl _) h
/-- Of tokens that are parsed, a part: some of the commands, or too short. -/
theorem parse_torn {p s : List Tok} {cs : List Cmd} {i : Int} (h : parseS (p ++ s) = (cs, i, 0)) : (∃ cs', parseS p = (cs', 0, 0) ∧ cs'.length ≤ cs.length) ∨ parseS p = ([], (p.length : Int), 4) := by
  obtain ⟨_, hs, hall, hlen, _⟩ := parse_val h
  have ha : AllOk p := fun t ht => hall t (by simp [ht])
  have hl : ¬ 400 < p.length := by simp only [List.length_append] at hlen; omega
  have e : parseS p = match scriptR p with
      | .ok (cs, _) => (cs, 0, 0)
      | .error (m, e) => ([], ((p.length - m : Nat) : Int), e) := by
    unfold parseS
    rw [if_neg hl, bad_none _ _ ha]
    rfl
  rcases script_cut p s cs [] hs with ⟨cs', h1, h2⟩ | h1
  · left; exact ⟨cs', by rw [e, h1], h2⟩
  · right; rw [e, h1]; rfl
end Go.Proofs.YtbdpfoidhffalaaDoor
