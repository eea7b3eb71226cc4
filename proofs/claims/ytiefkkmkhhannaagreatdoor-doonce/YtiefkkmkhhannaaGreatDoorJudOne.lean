/-
  Plain facts on one command that is done: it is allowed, with all required.
-/
import Derived.Test.YtiefkkmkhhannaaGreatDoorRulCs
namespace Go.Proofs.YtiefkkmkhhannaaGreatDoor
open Go.RowKit

theorem one_fault {x : Cmd} (hf : fitHC x = true) (h2 : x.kind ≠ 2) : faultCmd 2 0 x = 0 := by
  unfold fitHC at hf
  simp only [Bool.and_eq_true, decide_eq_true_eq] at hf
  obtain ⟨⟨⟨⟨⟨k2, k10⟩, hfit⟩, ht⟩, _⟩, _⟩ := hf
  have hnum : isNumP 0 x.kind = true := by
    rw [isNum_cmd]
    simp
    omega
  unfold faultCmd
  rw [hnum, hfit]
  rw [if_neg (by decide), if_pos h2]
theorem one_len {x : Cmd} (hf : fitHC x = true) (h2 : x.kind ≠ 2) : (cmdT 2 x).length ≤ 4 := by
  unfold fitHC at hf
  simp only [Bool.and_eq_true, decide_eq_true_eq] at hf
  obtain ⟨⟨⟨⟨⟨k2, k10⟩, hfit⟩, ht⟩, _⟩, _⟩ := hf
  unfold cmdT restT
  rw [if_neg h2]
  match hx : x.texts, ht with
  | [], _ => simp
  | [t], _ => simp [listT]
theorem rule_one {x : Cmd} (hN : NiceC 2 x) (hf : fitHC x = true) (h2 : x.kind ≠ 2) : ruleM 2 [reqC, x] = 0 := by
  refine rule_allowed (n := 1) ?_ (fun y hy => by simp at hy; rw [hy]; exact hN)
  rw [checkM_of fun y hy => by
    simp at hy
    rcases hy with e | e
    · rw [e]; exact fault_req _
    · rw [e]; exact one_fault hf h2]
  rw [if_neg]
  have h1 := one_len hf h2
  have h3 : (cmdsT 2 [reqC, x]).length = (cmdT 2 reqC).length + (cmdT 2 x).length := by simp [cmdsT]
  have h4 : (cmdT 2 reqC).length = 11 := rfl
  show ¬ 400 < (cmdsT 2 [reqC, x]).length
  omega
end Go.Proofs.YtiefkkmkhhannaaGreatDoor
