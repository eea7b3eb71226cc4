/-
  Plain facts on scripts: what is shown has short words alone. No program is named here.
-/
import Derived.Test.YtdmiidbncpgfpaaDoorScrErr
namespace Go.Proofs.YtdmiidbncpgfpaaDoor
open Go.RowKit

/-- A word or tag is short. -/
def shortT (t : Tok) : Prop := t.kind = 1 ∨ t.kind = 2 → t.text.length ≤ 16
def AllS (l : List Tok) : Prop := ∀ t ∈ l, shortT t
theorem AllS.app {a b : List Tok} (h : AllS a) (k : AllS b) : AllS (a ++ b) := fun t ht => by
  rcases List.mem_append.1 ht with e | e
  · exact h t e
  · exact k t e
theorem AllS.cons {t : Tok} {b : List Tok} (h : shortT t) (k : AllS b) : AllS (t :: b) := fun x hx => by
  rcases List.mem_cons.1 hx with e | e
  · rw [e]; exact h
  · exact k x e
theorem allS_nil : AllS [] := fun t h => by cases h
theorem AllS.flat {A : Type} {g : A → List Tok} {l : List A} (h : ∀ x ∈ l, AllS (g x)) : AllS (l.flatMap g) := fun t ht => by
  obtain ⟨x, hx, hxt⟩ := List.mem_flatMap.1 ht
  exact h x hx t hxt
theorem AllS.sep {A : Type} {g : A → List Tok} {l : List A} (h : ∀ x ∈ l, AllS (g x)) : AllS (sepT g l) := by
  cases l with
  | nil => exact allS_nil
  | cons x l => exact AllS.app (h x (by simp)) (AllS.flat fun y hy => AllS.cons (fun _ => by decide) (h y (by simp [hy])))
theorem str_sh (x : List UInt8) : shortT (strT x) := fun h => by rcases h with h | h <;> exact absurd h (show ¬ ((4 : Int) = _) by decide)
theorem list_sh (l : List (List UInt8)) : AllS (listT l) := by
  match l with
  | [] => exact AllS.cons (fun _ => by decide) (AllS.app (AllS.sep fun x hx => by cases hx) (AllS.cons (fun _ => by decide) allS_nil))
  | [x] => exact AllS.cons (str_sh x) allS_nil
  | x :: y :: ys => exact AllS.cons (fun _ => by decide) (AllS.app (AllS.sep fun z _ => AllS.cons (str_sh z) allS_nil) (AllS.cons (fun _ => by decide) allS_nil))
theorem wordT_sh (k n : Nat) (hk : k < 2) (h1 : 1 ≤ n) (h2 : n ≤ 10) : shortT (wordT (wordOf k n)) := by
  match k, hk with
  | 0, _ | 1, _ =>
    match n, h1, h2 with
    | 1, _, _ | 2, _, _ | 3, _, _ | 4, _, _ | 5, _, _ | 6, _, _ | 7, _, _ | 8, _, _ | 9, _, _ | 10, _, _ => exact fun _ => by decide
theorem tagT_sh (k n : Nat) (hk : 2 ≤ k ∧ k < 4) (h1 : 1 ≤ n) (h2 : n ≤ 3) : shortT (tagT (wordOf k n)) := by
  match k, hk with
  | 2, _ | 3, _ =>
    match n, h1, h2 with
    | 1, _, _ | 2, _, _ | 3, _, _ => exact fun _ => by decide
theorem test_sh : ∀ (m d : Nat) (t : Tst), DeepT m t → faultTst m d t = 0 → AllS (testT m t) := by
  intro m
  induction m with
  | zero => intro d t h; exact h.elim
  | succ m ih =>
    intro d t hdeep hf
    obtain ⟨hnum, hd, hfit, hin⟩ := faultTst_zero hf
    rw [isNum_tst] at hnum
    obtain ⟨k, hk, h1, h2⟩ := kind_of_num hnum
    unfold testT
    unfold fitsT at hfit
    rw [hk] at hfit ⊢
    simp only [Int.toNat_natCast]
    refine AllS.cons (wordT_sh 1 k (by omega) h1 h2) ?_
    have hall : ∀ x ∈ t.tests, AllS (testT m x) := fun x hx => ih (d + 1) x (hdeep x hx) (hin x hx)
    by_cases k3 : (k : Int) = 3
    · rw [if_pos k3]
      cases h : t.tests with
      | nil => exact allS_nil
      | cons x xs => exact hall x (by rw [h]; simp)
    rw [if_neg k3] at hfit ⊢
    by_cases k45 : (k : Int) = 4 ∨ (k : Int) = 5
    · rw [if_pos k45]
      exact AllS.cons (fun _ => by decide) (AllS.app (AllS.sep hall) (AllS.cons (fun _ => by decide) allS_nil))
    rw [if_neg k45] at hfit ⊢
    by_cases k6 : (k : Int) = 6
    · rw [if_pos k6] at hfit ⊢
      simp [cmpB, isNum_mat] at hfit
      exact AllS.cons (tagT_sh 2 _ (by omega) (by omega) (by omega)) (AllS.app (list_sh _) (list_sh _))
    rw [if_neg k6] at hfit ⊢
    by_cases k78 : (k : Int) = 7 ∨ (k : Int) = 8
    · rw [if_pos k78] at hfit ⊢
      simp [cmpB, isNum_mat, isNum_part] at hfit
      exact AllS.cons (tagT_sh 3 _ (by omega) (by omega) (by omega)) (AllS.cons (tagT_sh 2 _ (by omega) (by omega) (by omega)) (AllS.app (list_sh _) (list_sh _)))
    rw [if_neg k78] at hfit ⊢
    by_cases k9 : (k : Int) = 9
    · rw [if_pos k9]
      exact list_sh _
    rw [if_neg k9] at hfit ⊢
    by_cases k10 : (k : Int) = 10
    · rw [if_pos k10] at hfit ⊢
      simp at hfit
      refine AllS.cons ?_ (AllS.cons ?_ allS_nil)
      · intro _; cases t.over <;> decide
      · exact fun h => by rcases h with h | h <;> exact absurd h (show ¬ ((3 : Int) = _) by decide)
    · rw [if_neg k10]
      exact allS_nil
theorem cmd_sh : ∀ (m d : Nat) (c : Cmd), DeepC m c → faultCmd m d c = 0 → AllS (restT m c) ∧ AllS (cmdT m c) := by
  intro m
  induction m with
  | zero => intro d c h; exact h.elim
  | succ m ih =>
    intro d c hdeep hf
    obtain ⟨k, hk, k1, k2⟩ := cmd_kind hf
    obtain ⟨_, hd, hfit, h2⟩ := faultCmd_zero hf
    have hr : AllS (restT (m + 1) c) := by
      unfold restT
      by_cases hk2 : c.kind = 2
      · rw [if_pos hk2]
        obtain ⟨hT, hA, hE⟩ := h2 hk2
        obtain ⟨dT, dA, dE⟩ := hdeep
        refine AllS.app (AllS.app (test_sh _ _ _ dT hT) (AllS.app (AllS.cons (fun _ => by decide) (AllS.flat fun x hx => (ih _ x (dA x hx) (hA x hx)).2)) (AllS.cons (fun _ => by decide) allS_nil))) ?_
        cases he : elsifP c.els with
        | some x =>
          rw [he] at hE
          obtain ⟨hx, _⟩ := elsifP_some he
          exact AllS.cons (fun _ => by decide) (ih _ x (dE x (by rw [hx]; simp)) hE).1
        | none =>
          rw [he] at hE
          simp only
          by_cases hz : c.els.length = 0
          · rw [if_pos hz]; exact allS_nil
          · rw [if_neg hz]
            exact AllS.cons (fun _ => by decide) (AllS.app (AllS.cons (fun _ => by decide) (AllS.flat fun x hx => (ih _ x (dE x hx) (hE x hx)).2)) (AllS.cons (fun _ => by decide) allS_nil))
      · rw [if_neg hk2]
        refine AllS.app ?_ (AllS.cons (fun _ => by decide) allS_nil)
        by_cases hz : c.texts.length = 0
        · rw [if_pos hz]; exact allS_nil
        · rw [if_neg hz]; exact list_sh _
    refine ⟨hr, ?_⟩
    unfold cmdT
    rw [hk]
    exact AllS.cons (wordT_sh 0 k (by omega) k1 k2) hr
theorem shown_short {m : Nat} {l : List Cmd} (hd : ∀ x ∈ l, DeepC m x) (hf : faultCmds m 0 l = 0) : AllS (cmdsT m l) := AllS.flat fun x hx => (cmd_sh m 0 x (hd x hx) (firstP_all hf x hx)).2
/-- What is parsed with no fault, may be. -/
theorem parse_val {l : List Tok} {cs : List Cmd} {i : Int} (h : parseS l = (cs, i, 0)) : i = 0 ∧ scriptR l = .ok (cs, []) ∧ AllOk l ∧ l.length ≤ 400 ∧ ∀ x ∈ cs, DeepC (l.length + 3) x ∧ ∀ m, faultCmd m 0 x = 0 := by
  unfold parseS at h
  by_cases hl : 400 < l.length
  · rw [if_pos hl] at h; cases h
  · rw [if_neg hl] at h
    cases hb : badTok l 0 with
    | some y =>
      obtain ⟨j, e⟩ := y
      rw [hb] at h
      simp only [Prod.mk.injEq] at h
      exfalso
      have : ∀ (l : List Tok) (i j : Nat) (e : Int), badTok l i = some (j, e) → e ≠ 0 := by
        intro l
        induction l with
        | nil => intro i j e h; cases h
        | cons t l ih =>
          intro i j e h
          unfold badTok at h
          by_cases ht : faultT t = 0
          · rw [if_pos ht] at h; exact ih _ _ _ h
          · rw [if_neg ht] at h; cases h; exact ht
      exact this _ _ _ _ hb h.2.2
    | none =>
      rw [hb] at h
      simp only at h
      have hall := ok_of_bad _ _ hb
      have hloop : ∀ (n : Nat) (acc r' : List Cmd) (r q : List Tok), scriptF (cmdP (l.length + 2) true 0) n acc r = .ok (r', q) → AllOk r → r.length ≤ n → (∀ x ∈ acc, ValC (l.length + 2) 0 x) → q = [] ∧ ∀ x ∈ r', ValC (l.length + 2) 0 x := by
        intro n
        induction n with
        | zero =>
          intro acc r' r q h ha hr hv
          cases h
          exact ⟨List.length_eq_zero_iff.1 (by omega), hv⟩
        | succ n ih =>
          intro acc r' r q h ha hr hv
          unfold scriptF at h
          split at h
          · rename_i he
            cases h
            exact ⟨by simpa using he, hv⟩
          · obtain ⟨x, q1, h1, h2⟩ := thenR_ok h
            obtain ⟨vx, a1⟩ := cmd_val _ _ _ _ _ _ (fun hf => by cases hf) h1 ha
            have := cmdP_len _ _ _ _ _ _ h1
            refine ih _ _ _ _ h2 a1 (by omega) fun y hy => ?_
            rcases List.mem_append.1 hy with e | e
            · exact hv y e
            · simp at e; rw [e]; exact vx
      cases hs : scriptR l with
      | error m =>
        rw [hs] at h
        simp only [Prod.mk.injEq] at h
        exfalso
        exact err_ne hs h.2.2
      | ok y =>
        obtain ⟨c, q⟩ := y
        rw [hs] at h
        simp only [Prod.mk.injEq] at h
        obtain ⟨rfl, rfl, _⟩ := h
        obtain ⟨rfl, hv⟩ := hloop _ _ _ _ _ hs hall (Nat.le_refl _) (fun x hx => by cases hx)
        exact ⟨rfl, rfl, hall, by omega, fun x hx => ⟨(hv x hx).1, (hv x hx).2⟩⟩
end Go.Proofs.YtdmiidbncpgfpaaDoor
