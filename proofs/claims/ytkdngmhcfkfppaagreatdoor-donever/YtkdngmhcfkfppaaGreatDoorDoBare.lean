/-
  Reject and keeping do not go together: walked: one command.
-/
import Derived.Test.YtkdngmhcfkfppaaGreatDoorJudFace
import Derived.Test.YtkdngmhcfkfppaaGreatDoorJudOne
import Derived.Test.YtkdngmhcfkfppaaGreatDoorMkCmd
namespace Go.Proofs.YtkdngmhcfkfppaaGreatDoor
open Go.RowKit Go.Proofs

def bareC (k : Int) (ts : List (List UInt8)) : Cmd := ⟨k, ts, noneT, [], []⟩
theorem bare_nc (s : List UInt8) : NC (bareC 3 []) ∧ NC (bareC 4 []) ∧ NC (bareC 5 [[97]]) ∧ NC (bareC 6 [[97, 64, 98]]) ∧ NC (bareC 7 [s]) := by
  refine ⟨?_, ?_, ?_, ?_, ?_⟩
  · exact NC.mk (by decide) (fun h => by cases h) (fun h => by rcases h with h | h <;> cases h) (fun h => by cases h) NT.none (fun u hu => by cases hu) (fun u hu => by cases hu) rfl (fun h => by cases h)
  · exact NC.mk (by decide) (fun h => by cases h) (fun h => by rcases h with h | h <;> cases h) (fun h => by cases h) NT.none (fun u hu => by cases hu) (fun u hu => by cases hu) rfl (fun h => by cases h)
  · exact NC.mk (by decide) (fun _ => by decide) (fun h => by rcases h with h | h <;> cases h) (fun h => by cases h) NT.none (fun u hu => by cases hu) (fun u hu => by cases hu) rfl (fun h => by cases h)
  · exact NC.mk (by decide) (fun h => by cases h) (fun h => by rcases h with h | h <;> cases h) (fun _ => by decide +kernel) NT.none (fun u hu => by cases hu) (fun u hu => by cases hu) rfl (fun h => by cases h)
  · exact NC.mk (by show (7 : Int) ≠ 1; decide) (fun h => by cases h) (fun h => by rcases h with h | h <;> cases h) (fun h => by cases h) NT.none (fun u hu => by cases hu) (fun u hu => by cases hu) rfl (fun h => by cases h)
theorem bare_may (s : List UInt8) : MayDo (bareC 3 []) ∧ MayDo (bareC 4 []) ∧ MayDo (bareC 5 [[97]]) ∧ MayDo (bareC 6 [[97, 64, 98]]) ∧ MayDo (bareC 7 [s]) := by
  refine ⟨?_, ?_, ?_, ?_, ?_⟩
  · exact ⟨by simp [bareC], (fun h => by rcases h with h | h | h <;> cases h), fun h => by cases h⟩
  · exact ⟨by simp [bareC], (fun h => by rcases h with h | h | h <;> cases h), fun h => by cases h⟩
  · exact ⟨by simp [bareC], fun _ => by simp [bareC], fun h => by cases h⟩
  · exact ⟨by simp [bareC], fun _ => by simp [bareC], fun _ => by show goalP [97, 64, 98] = 0; decide +kernel⟩
  · exact ⟨by simp [bareC], fun _ => by simp [bareC], fun h => by cases h⟩
theorem do_bare (c : Crs) (a : Option Addr) (k : Nat) (kd : Int) (ts : List (List UInt8)) (ax : Option Addr) (cx : Nat) (w : World) (hw : Tabs w) (hA : AtnsM anyB w (.slice a c.acts.length k) c.acts) (hn : a = none → c.acts = [] ∧ k = 0) (hl : c.acts.length ≤ 6) (hf0 : 0 ≤ c.flags) (hf1 : c.flags ≤ 31) (hT : TxtsM anyB w (.slice ax ts.length cx) ts) (hN : NC (bareC kd ts)) (hP : MayDo (bareC kd ts)) (h2 : kd ≠ 2) :
    Calls Tryz.prog 17 #[.agg #[.slice a c.acts.length k, .int .i64 c.flags, .bool c.asked, .int .i64 c.fault], .agg #[.int .i64 kd, .slice ax ts.length cx, .int .i64 0, .int .i64 0, .int .i64 0, .slice none 0 0, .slice none 0 0, .bool false, .int .i64 0, .slice none 0 0, .slice none 0 0, .slice none 0 0]] w (DoR w (goesP c (bareC kd ts))) :=
  Do_ok 0 c a k (bareC kd ts) ax none none none none none cx 0 0 0 0 0 w hw hA hn hl hf0 hf1 ⟨_, _, _, _, _, _, rfl, hT, none_tst' _ _ _, rowM_nil _ _ _ _ _ _, rowM_nil _ _ _ _ _ _⟩ hP (short_of (fun n => (hN n).1) 2) (rule_one (hN 2).1 (hN 1).2.1 h2)

end Go.Proofs.YtkdngmhcfkfppaaGreatDoor
