/-
  Scripts of the laws, judged: plain facts.
-/
import Derived.Test.YtlcnfpeabnnjoaaGreatDoorJudFol
import Derived.Test.YtlcnfpeabnnjoaaGreatDoorMkScr
namespace Go.Proofs.YtlcnfpeabnnjoaaGreatDoor
open Go.RowKit Go.Proofs

theorem goodT_fit : ∀ (n : Nat) (t : Tst), FitT n t → goodT n t := by
  intro n
  induction n with
  | zero => intro t _; trivial
  | succ n ih =>
    intro t h
    obtain ⟨h1, h2⟩ := h
    refine ⟨fun hk => ?_, fun x hx => ih x (h2 x hx)⟩
    unfold fitH at h1
    simp only [Bool.and_eq_true, decide_eq_true_eq] at h1
    obtain ⟨⟨⟨⟨_, hf⟩, _⟩, _⟩, _⟩ := h1
    unfold fitsT at hf
    rw [if_pos hk] at hf
    simp only [Bool.and_eq_true, decide_eq_true_eq] at hf
    intro e
    rw [e] at hf
    simp at hf
theorem good_fit : ∀ (n : Nat) (x : Cmd), NiceC n x → FitC n x → goodC n x := by
  intro n
  induction n with
  | zero => intro x _ _; trivial
  | succ n ih =>
    intro x hN hF
    obtain ⟨k1, k2, k3, k4, k5, k6, k7⟩ := hN
    obtain ⟨f1, f2, f3, f4⟩ := hF
    unfold fitHC at f1
    simp only [Bool.and_eq_true, decide_eq_true_eq] at f1
    obtain ⟨⟨⟨⟨⟨g2, g10⟩, gf⟩, _⟩, _⟩, _⟩ := f1
    refine ⟨fun hk => ⟨by omega, fun h5 => ?_, fun h6 => k4 h6⟩, fun hk => ⟨goodT_fit n x.test (f2 hk), fun y hy => ih y (k6 y hy) (f3 y hy), fun y hy => ih y (k7 y hy) (f4 y hy)⟩⟩
    intro e
    unfold fitsC at gf
    split at gf
    · cases gf
    · split at gf
      · rename_i h; omega
      · rw [e] at gf
        simp at gf
theorem good_nc {x : Cmd} (h : NC x) (n : Nat) : goodC n x := good_fit n x (h n).1 (h n).2
theorem good_req (n : Nat) : goodC n reqC := by
  cases n with
  | zero => trivial
  | succ n => exact ⟨fun _ => ⟨by simp [reqC], (fun h => by rcases h with h | h | h <;> cases h), fun h => by cases h⟩, fun h => by cases h⟩
theorem good_scr {r : List Cmd} (h : ∀ x ∈ r, NC x) (n : Nat) : ∀ x ∈ reqC :: r, goodC n x := by
  intro x hx
  rcases List.mem_cons.1 hx with e | e
  · rw [e]; exact good_req n
  · exact good_nc (h x e) n
theorem short_req (n : Nat) : ShortC n reqC := by
  cases n with
  | zero => trivial
  | succ n => exact ⟨(fun h => by cases h), (fun x hx => by cases hx), fun x hx => by cases hx⟩
theorem short_scr {r : List Cmd} (h : ∀ x ∈ r, NC x) (n : Nat) : ∀ x ∈ reqC :: r, ShortC n x := by
  intro x hx
  rcases List.mem_cons.1 hx with e | e
  · rw [e]; exact short_req n
  · exact short_of (fun n => (h x e n).1) n

/- What is true of a course on its way. -/
def crsInv (c : Crs) : Prop := (c.fault = 0 ∨ c.fault = 9 ∨ c.fault = 5) ∧ (c.asked = true → c.fault = 0 → c.acts ≠ [])
theorem ask_inv {c : Crs} (h : crsInv c) (a : Atn) : crsInv (askP c a).1 := by
  unfold askP
  split
  · exact ⟨.inr (.inl rfl), fun _ h => by cases h⟩
  · split
    · rename_i hs
      refine ⟨h.1, fun _ _ e => ?_⟩
      have e' : c.acts = [] := e
      rw [e'] at hs
      simp at hs
    · split
      · exact ⟨.inr (.inr rfl), fun _ h => by cases h⟩
      · exact ⟨h.1, fun _ _ e => by simp at e⟩
theorem do_inv {c : Crs} (h : crsInv c) (x : Cmd) : crsInv (doP c x).1 := by
  unfold doP
  split
  · exact h
  · split
    · exact h
    · split
      · exact h
      · split
        · exact h
        · exact ask_inv h _
theorem fold_inv {f : List Cmd → Crs × Bool → Crs × Bool} {tl : Tst → Bool} (hf : ∀ l s, crsInv s.1 → crsInv (f l s).1) : ∀ (l : List Cmd) (s : Crs × Bool), crsInv s.1 → crsInv (l.foldl (stepP f tl) s).1 := by
  intro l
  induction l with
  | nil => intro s h; exact h
  | cons x l ih =>
    intro s h
    rw [List.foldl_cons]
    refine ih _ ?_
    unfold stepP
    split
    · exact h
    · split
      · exact do_inv h x
      · split
        · exact hf _ _ h
        · exact hf _ _ h
theorem follow_inv (o : Opn) : ∀ (n : Nat) (l : List Cmd) (s : Crs × Bool), crsInv s.1 → crsInv (followP o n l s).1 := by
  intro n
  induction n with
  | zero => intro l s h; exact h
  | succ n ih => intro l s h; exact fold_inv ih l s h
theorem judge_inv (o : Opn) (n : Nat) (l : List Cmd) : crsInv (judgeP o n l) := follow_inv o n l _ ⟨.inl rfl, fun h => by cases h⟩
theorem judge_nil (o : Opn) (n : Nat) : judgeP o n [] = newC := by
  cases n <;> rfl
/-- What a script makes, asked of a letter. -/
theorem judge_scr (o : Opn) (ho : Opened o) (M : Nat) (r : List Cmd) (a : Option Addr) (k : Nat) (w : World) (hw : Tabs w) (hm : maxLenCell w) (hN : ∀ x ∈ r, NC x) (hc : checkM (M + 1) (reqC :: r) = 0) (hk : r.length + 1 ≤ k) (hC : CmdsM anyB (M + 1) w (.slice a (reqC :: r).length k) (reqC :: r)) :
    Calls Tryz.prog 15 #[.slice a (r.length + 1) k, .agg #[.string (S o.fl), .string (S o.fd), .string (S o.tl), .string (S o.td), .string (S o.tx)]] w (CrsR w (judgeP o (M + 1) (reqC :: r))) :=
  Judge_ok M (reqC :: r) a k o w hw hm ho (by simpa using hk) (fun h => by cases h) (short_scr hN _) hC (rule_allowed hc fun x hx => (hN x hx _).1) (good_scr hN _)
end Go.Proofs.YtlcnfpeabnnjoaaGreatDoor
