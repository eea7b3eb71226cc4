/-
  Plain facts on what is compiled of a script: each op may be.
-/
import Derived.Test.YtlcnfpeabnnjoaaGreatDoorCodFin
import Derived.Test.YtlcnfpeabnnjoaaGreatDoorJudOne
import Derived.Test.YtlcnfpeabnnjoaaGreatDoorMkCmd
namespace Go.Proofs.YtlcnfpeabnnjoaaGreatDoor
open Go.RowKit Go.Proofs

theorem mp_nil {t : Tst} (hfit : fitsT t = true) (k3 : t.kind ≠ 3) (k4 : t.kind ≠ 4) (k5 : t.kind ≠ 5) : t.tests = [] := by
  unfold fitsT at hfit
  rw [if_neg k3, if_neg (by omega)] at hfit
  have hno : ∀ u : Tst, noTst u = true → u.tests = [] := fun u hu => by
    unfold noTst at hu
    simp only [Bool.and_eq_true, decide_eq_true_eq] at hu
    exact List.length_eq_zero_iff.1 hu.2
  split at hfit
  · simp only [Bool.and_eq_true] at hfit; have h := hno _ hfit.2; exact h
  · split at hfit
    · simp only [Bool.and_eq_true] at hfit; have h := hno _ hfit.2; exact h
    · split at hfit
      · simp only [Bool.and_eq_true] at hfit; have h := hno _ hfit.2; exact h
      · split at hfit
        · simp only [Bool.and_eq_true] at hfit; have h := hno _ hfit.2; exact h
        · have h := hno _ hfit; exact h
theorem mp_bare {t : Tst} (h : t.tests = []) : bareT t = t := by
  cases t
  simp only at h
  subst h
  rfl
theorem mp_list (l : List (List UInt8)) : (listT l).length ≤ 2 + 2 * l.length := by
  match l with
  | [] => simp [listT, sepT]
  | [x] => simp [listT]
  | x :: y :: r =>
    have h : ∀ r : List (List UInt8), (r.flatMap fun y => [markT 44, strT y]).length = 2 * r.length := fun r => by
      induction r with
      | nil => rfl
      | cons a r ih => simp [List.flatMap_cons] at ih ⊢; omega
    have h2 := h (y :: r)
    simp [listT, sepT] at h2 ⊢
    omega
theorem mp_len {t : Tst} (ht : t.tests = []) : (testT 1 t).length ≤ 8 + 2 * t.names.length + 2 * t.keys.length := by
  have h1 := mp_list t.names
  have h2 := mp_list t.keys
  unfold testT
  rw [ht]
  split
  · simp; omega
  · split
    · simp [sepT]; omega
    · split
      · simp; omega
      · split
        · simp; omega
        · split
          · simp; omega
          · split
            · simp; omega
            · simp; omega
theorem mp_leaf {t : Tst} (h1 : 1 ≤ t.kind) (h2 : t.kind ≤ 10) (hf : fitsT t = true) (ht : t.tests = []) : faultTst 1 1 t = 0 := by
  have hn : isNumP 1 t.kind = true := by rw [isNum_tst]; simp; omega
  unfold faultTst
  rw [hn, hf, ht]
  rfl
theorem mp_if {t : Tst} (h : faultTst 1 1 (bareT t) = 0) : faultCmd 2 0 (ifO t) = 0 := by
  rw [faultCmd_step]
  have h1 : oneP (isNumP 0 (ifO t).kind) 0 (fitsC (ifO t)) = 0 := rfl
  rw [h1, if_neg (by simp), if_neg (by show ¬ (2 : Int) ≠ 2; simp), if_neg (by show ¬ faultTst 1 1 (bareT t) ≠ 0; rw [h]; simp)]
  rfl
theorem mp_iflen (t : Tst) : (cmdT 2 (ifO t)).length = (testT 1 (bareT t)).length + 3 := by
  unfold cmdT restT ifO
  simp [elsifP]
theorem t_fine {t : Tst} (hN : NiceT 1 t) (hF : FitT 1 t) (k3 : t.kind ≠ 3) (k4 : t.kind ≠ 4) (k5 : t.kind ≠ 5) : TFine t := by
  have hF1 := hF.1
  unfold fitH at hF1
  simp only [Bool.and_eq_true, decide_eq_true_eq] at hF1
  obtain ⟨⟨⟨⟨⟨a1, a2⟩, a3⟩, a4⟩, a5⟩, _⟩ := hF1
  have hn := mp_nil a3 k3 k4 k5
  refine ⟨by simp [jumpB, k3, k4, k5], ?_⟩
  refine rule_allowed (n := 1) ?_ (fun y hy => ?_)
  · rw [checkM_of fun y hy => by
      simp at hy
      rcases hy with e | e
      · rw [e]; exact fault_req _
      · rw [e]; exact mp_if (by rw [mp_bare hn]; exact mp_leaf a1 a2 a3 hn)]
    rw [if_neg]
    have h1 := mp_len hn
    have h2 := mp_iflen t
    rw [mp_bare hn] at h2
    have h3 : (cmdsT 2 [reqC, ifO t]).length = (cmdT 2 reqC).length + (cmdT 2 (ifO t)).length := by simp [cmdsT]
    have h4 : (cmdT 2 reqC).length = 11 := rfl
    show ¬ 400 < (cmdsT 2 [reqC, ifO t]).length
    omega
  · simp at hy
    rw [hy]
    refine ⟨(fun h => by cases h), (fun h => by cases h), (fun h => by rcases h with h | h <;> cases h), (fun h => by cases h), ?_, (fun x hx => by cases hx), fun x hx => by cases hx⟩
    show NiceT 1 (bareT t)
    rw [mp_bare hn]
    exact hN
theorem bare_cmd {c : Cmd} (hf : fitHC c = true) : fitHC (bareC c) = true := by
  unfold fitHC at hf ⊢
  simp only [Bool.and_eq_true, decide_eq_true_eq] at hf ⊢
  obtain ⟨⟨⟨⟨⟨k2, k10⟩, hfit⟩, ht⟩, _⟩, _⟩ := hf
  refine ⟨⟨⟨⟨⟨k2, k10⟩, ?_⟩, ht⟩, by simp [bareC]⟩, by simp [bareC]⟩
  unfold fitsC at hfit ⊢
  rw [if_neg (by show ¬ (c.kind ≠ 2 ∧ (0 < ([] : List Cmd).length ∨ 0 < ([] : List Cmd).length ∨ noTst noneT = false)); simp; intro _; rfl)]
  split at hfit
  · cases hfit
  · exact hfit
theorem c_fine {c : Cmd} (hA : ∀ n, NiceC n c) (hf : fitHC c = true) (h2 : c.kind ≠ 2) : CFine c := by
  obtain ⟨n1, n2, n3, n4, _, _, _⟩ := hA 2
  have hN2 : NiceC 2 (bareC c) := ⟨n1, n2, n3, n4, ⟨rfl, rfl, (fun h => by cases h), fun u hu => by cases hu⟩, (fun x hx => by cases hx), fun x hx => by cases hx⟩
  refine ⟨by simp [h2], rule_one hN2 (bare_cmd hf) h2, (short_of hA 1).1⟩
theorem req_fine : CFine reqC := ⟨rfl, by kernel_rfl, fun h => by cases h⟩
theorem all_t : ∀ (n : Nat) (t : Tst), NT t → allT TFine n t := by
  intro n
  induction n with
  | zero => intro t _; trivial
  | succ n ih => exact fun t h => ⟨fun k3 k4 k5 => t_fine (h 1).1 (h 1).2 k3 k4 k5, fun x hx => ih x fun m => ⟨(h (m + 1)).1.2.2.2 x hx, (h (m + 1)).2.2 x hx⟩⟩
theorem all_c : ∀ (n : Nat) (c : Cmd), NC c → allC TFine CFine n c := by
  intro n
  induction n with
  | zero => intro t _; trivial
  | succ n ih =>
    intro c h
    refine ⟨fun k2 => c_fine (fun n => (h n).1) (h 2).2.1 k2, fun k2 => ⟨all_t n c.test fun m => ⟨(h (m + 1)).1.2.2.2.2.1, (h (m + 1)).2.2.1 k2⟩, fun x hx => ih x fun m => ?_, fun x hx => ih x fun m => ?_⟩⟩
    · exact ⟨(h (m + 1)).1.2.2.2.2.2.1 x hx, (h (m + 1)).2.2.2.1 x hx⟩
    · exact ⟨(h (m + 1)).1.2.2.2.2.2.2 x hx, (h (m + 1)).2.2.2.2 x hx⟩
theorem scr_good {r : List Cmd} (hN : ∀ x ∈ r, NC x) (n : Nat) : AllGood TFine CFine 0 (compM (n + 1) (reqC :: r)).length (compM (n + 1) (reqC :: r)) :=
  comp_good (n + 1) (reqC :: r) fun c hc => by
    rcases List.mem_cons.1 hc with rfl | hc
    · exact ⟨fun _ => req_fine, fun h => by cases h⟩
    · exact all_c (n + 1) c (hN c hc)
end Go.Proofs.YtlcnfpeabnnjoaaGreatDoor
